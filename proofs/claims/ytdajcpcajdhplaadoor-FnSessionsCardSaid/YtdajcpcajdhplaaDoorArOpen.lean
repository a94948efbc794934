/-
  Lists of items and sessions that came in: opened; the laws' sizes and copies of them, walked.
-/
import Derived.Test.YtdajcpcajdhplaaDoorSvLaw
import Derived.Test.YtdajcpcajdhplaaDoorOpenB
namespace Go.Proofs.YtdajcpcajdhplaaDoor
open Go.ChangeShapes Go.WideShapes Go.ChangeAt Go.RowKit

/-- an element as it came in: its numbers, its bytes -/
structure Ar where
  hd : List Int
  oa : Option Addr
  len : Nat
  cap : Nat
  d : List Nat
def Ar.tell (x : Ar) : List Int × List Nat := (x.hd, x.d)
def ArSl (w : World) (c : Nat) (oa : Option Addr) (A : List Ar) : Prop :=
  ∀ i x, A[i]? = some x → ∃ b off, oa = some ⟨b, off, none⟩ ∧ (∀ (j : Nat) (n : Int), x.hd[j]? = some n → w.cell? ⟨b, off + i * (c + 1) + j, none⟩ = some (.int .i64 n)) ∧ w.cell? ⟨b, off + i * (c + 1) + c, none⟩ = some (.slice x.oa x.len x.cap) ∧ x.hd.length = c ∧ SlB w x.oa x.len x.d ∧ x.len ≤ maxLen
theorem ArSl.grown {w w' : World} {c : Nat} {oa : Option Addr} {A : List Ar} (h : ArSl w c oa A) (hg : w.grownBy w' none) : ArSl w' c oa A := by
  intro i x hx
  obtain ⟨b, off, h1, h2, h3, h4, h5, h6⟩ := h i x hx
  obtain ⟨hc, -⟩ := bcell hg
  exact ⟨b, off, h1, fun j n hn => (hc _ _ (cell_block_lt (h2 j n hn))).trans (h2 j n hn), (hc _ _ (cell_block_lt h3)).trans h3, h4, h5.grown0 hg, h6⟩
theorem add_none (b off i : Nat) : (⟨b, off, none⟩ : Addr).add i = ⟨b, off + i, none⟩ := by
  by_cases h0 : i = 0 <;> simp [Addr.add, h0]
theorem cellsInt : Tryd.prog.cellsOf 3 = 1 := by kernel_rfl
theorem cellsU8' : Tryd.prog.cellsOf 5 = 1 := by kernel_rfl
theorem cellsBy : Tryd.prog.cellsOf 22 = 1 := by kernel_rfl
theorem made_get (z : Array Value) (n i : Nat) (hi : i < n) (hz : 0 < z.size) : (madeCells z n)[i]? = z[i % z.size]? := by
  simp [madeCells, hi]
  rw [Array.getElem!_eq_getD, Array.getD_eq_getD_getElem?, Array.getElem?_eq_getElem (Nat.mod_lt _ hz)]
  simp
/-- a new element's bytes -/
theorem ElAt.setO {w : World} {t : TypeId} {m g : Nat} {L : List El} (h : ElAt w t m g L) (ht : t ≠ 5) {k : Nat} {x : El} (hx : L[k]? = some x) (o' cp' : Nat) (d' : List Nat) (hO' : Own w 5 o' d') (hf' : ∀ y ∈ L, y.o ≠ some o') :
    ElAt (w.setCell ⟨g, k * (m + 1) + m, none⟩ (.slice (some ⟨o', 0, none⟩) d'.length cp')) t m g (L.set k { x with d := d', o := some o', cp := cp' }) := by
  have hk : k < L.length := (List.getElem?_eq_some_iff.1 hx).1
  have hne := fun {i : Nat} {s : El} (hs : L[i]? = some s) {b : Nat} (hb : s.o = some b) => h.ne ht hs hb
  have hog : o' ≠ g := by
    obtain ⟨cur, hg, _⟩ := h.row
    rintro rfl
    exact ht (own_type hO' hg).symm
  obtain ⟨⟨cur, hg, hc⟩, hO, hf⟩ := h
  refine ⟨⟨cur.setIfInBounds (k * (m + 1) + m) (.slice (some ⟨o', 0, none⟩) d'.length cp'), heap_setCell_same w g (k * (m + 1) + m) cur _ _ hg, fun i s hs => ?_⟩, fun i s hs => ?_, fun i j y z b hi hj hy hz => ?_⟩
  · rcases el_set_get hk hs with ⟨rfl, rfl⟩ | ⟨hik, hs'⟩
    · have h1 := hc i x hx
      have hl := (hO i x hx).1
      refine ⟨fun j' n hn => ?_, ?_⟩
      · have hj' := (List.getElem?_eq_some_iff.1 hn).1
        simp only at hj' hn
        rw [Array.getElem?_setIfInBounds, if_neg (by omega)]
        exact h1.1 j' n hn
      · have hb := (Array.getElem?_eq_some_iff.1 h1.2).1
        rw [Array.getElem?_setIfInBounds, if_pos rfl, if_pos hb]
        rfl
    · have h1 := hc i s hs'
      have hl := (hO i s hs').1
      refine ⟨fun j' n hn => ?_, ?_⟩
      · have hj' := (List.getElem?_eq_some_iff.1 hn).1
        rw [Array.getElem?_setIfInBounds, if_neg (mul_apart (Ne.symm hik) (by omega) (by omega))]
        exact h1.1 j' n hn
      · rw [Array.getElem?_setIfInBounds, if_neg (mul_apart (Ne.symm hik) (by omega) (by omega))]
        exact h1.2
  · rcases el_set_get hk hs with ⟨rfl, rfl⟩ | ⟨hik, hs'⟩
    · exact ⟨(hO i x hx).1, (hO'.setOther hog).s rfl, fun e => by cases e⟩
    · refine ⟨(hO i s hs').1, (hO i s hs').2.1.grown (row := some g) (grownBy_setCell (grownBy_refl _ _)) (fun b hb e => ?_), (hO i s hs').2.2⟩
      rw [blk_oad] at hb
      exact hne hs' hb (by simpa using e)
  · rcases el_set_get hk hi with ⟨rfl, rfl⟩ | ⟨hik, hi'⟩
    · rcases el_set_get hk hj with ⟨rfl, rfl⟩ | ⟨hjk, hj'⟩
      · rfl
      · simp only [Option.some.injEq] at hy
        subst hy
        exact absurd hz (hf' z (List.mem_of_getElem? hj'))
    · rcases el_set_get hk hj with ⟨rfl, rfl⟩ | ⟨hjk, hj'⟩
      · simp only [Option.some.injEq] at hz
        subst hz
        exact absurd hy (hf' y (List.mem_of_getElem? hi'))
      · exact hf i j y z b hi' hj' hy hz
def zEl (c : Nat) : El := ⟨List.replicate c 0, [], none, 0⟩

theorem cellsItem' : Tryd.prog.cellsOf 110 = 3 := by kernel_rfl
set_option maxRecDepth 100000 in
theorem openItem {H : Type} {enc : TypeId × Value → H} {W : World} {sp : Nat → Bool} {fuel : Nat} {cs : List Value} {x : DataW H × List MemPlace} (h : DataW.trod enc Tryd.prog W 0 sp true fuel 110 cs = some x) (hsp : ∀ b, sp b = true) :
    ∃ n0 n1 : Int, ∃ (oa : Option Addr) (len cap : Nat) (zs : List Nat), cs = [.int .i64 n0, .int .i64 n1, .slice oa len cap] ∧ SlB W oa len zs ∧ len ≤ maxLen := by
  obtain rfl : sp = fun _ => true := funext hsp
  obtain ⟨xs, n, rfl, -, hl, hlen, hf⟩ := DataW.trod_struct Tryd.underlying110 h
  rw [cellsItem'] at hl
  match cs, hl with
  | [c0, c1, cz], _ =>
    have h0 : DataW.trod enc Tryd.prog W 0 (fun _ => true) true n 3 [c0] = xs[0]? := by have h9 : DataW.trod enc Tryd.prog W 0 (fun _ => true) true n 3 (List.take (Tryd.prog.cellsOf 3) (List.drop 0 [c0, c1, cz])) = xs[0]? := hf 0 _ rfl; rw [cellsInt] at h9; exact h9
    have h1 : DataW.trod enc Tryd.prog W 0 (fun _ => true) true n 3 [c1] = xs[1]? := by have h9 : DataW.trod enc Tryd.prog W 0 (fun _ => true) true n 3 (List.take (Tryd.prog.cellsOf 3) (List.drop 1 [c0, c1, cz])) = xs[1]? := hf 1 _ rfl; rw [cellsInt] at h9; exact h9
    have h2 : DataW.trod enc Tryd.prog W 0 (fun _ => true) true n 22 [cz] = xs[2]? := by have h9 : DataW.trod enc Tryd.prog W 0 (fun _ => true) true n 22 (List.take (Tryd.prog.cellsOf 22) (List.drop 2 [c0, c1, cz])) = xs[2]? := hf 2 _ rfl; rw [cellsBy] at h9; exact h9
    obtain ⟨n0, e0⟩ : ∃ n, c0 = .int .i64 n := by
      obtain ⟨y, hy⟩ : ∃ y, xs[0]? = some y := ⟨_, List.getElem?_eq_getElem (by rw [hlen]; decide)⟩
      rw [hy] at h0
      obtain ⟨n, e, -, -⟩ := DataW.trod_int Tryd.underlying3 h0
      exact ⟨n, by simpa using e⟩
    obtain ⟨n1, e1⟩ : ∃ n, c1 = .int .i64 n := by
      obtain ⟨y, hy⟩ : ∃ y, xs[1]? = some y := ⟨_, List.getElem?_eq_getElem (by rw [hlen]; decide)⟩
      rw [hy] at h1
      obtain ⟨n, e, -, -⟩ := DataW.trod_int Tryd.underlying3 h1
      exact ⟨n, by simpa using e⟩
    obtain ⟨oa, len, cap, hz⟩ : ∃ oa len cap, cz = .slice oa len cap := by
      obtain ⟨y, hy⟩ : ∃ y, xs[2]? = some y := ⟨_, List.getElem?_eq_getElem (by rw [hlen]; decide)⟩
      rw [hy] at h2
      rcases DataW.trod_slice Tryd.underlying22 h2 with ⟨h, _⟩ | ⟨x, l, c, _, _, _, _, h, _⟩
      · simp at h; exact ⟨none, 0, 0, h⟩
      · simp at h; exact ⟨some x, l, c, h⟩
    subst hz
    obtain ⟨y, hy⟩ : ∃ y, xs[2]? = some y := ⟨_, List.getElem?_eq_getElem (by rw [hlen]; decide)⟩
    rw [hy] at h2
    obtain ⟨zs, hs, hmx⟩ := slb_open (a := oa) (len := len) (cap := cap) Tryd.underlying22 Tryd.underlying5 cellsU8' ⟨_, by simpa [Value.cells] using h2⟩
    exact ⟨n0, n1, oa, len, cap, zs, by simp [e0, e1], hs, hmx⟩
set_option maxRecDepth 100000 in
theorem openItemS {H : Type} {enc : TypeId × Value → H} {W : World} {fuel : Nat} {oa : Option Addr} {len cap : Nat} {x : DataW H × List MemPlace} (h : DataW.trod enc Tryd.prog W 0 (fun _ => true) true fuel 47 [.slice oa len cap] = some x) :
    ∃ A, ArSl W 2 oa A ∧ A.length = len ∧ len ≤ maxLen ∧ (oa = none → cap = 0) := by
  rcases DataW.trod_slice Tryd.underlying47 h with ⟨h0, _⟩ | ⟨a, len', cap', elems, rest, n, _, hcs, -, _, hl, hm, hlen, hel, _, _⟩
  · simp at h0
    obtain ⟨rfl, rfl, rfl⟩ := h0
    exact ⟨[], fun i x hx => by simp at hx, rfl, Nat.zero_le _, fun _ => rfl⟩
  · simp at hcs
    obtain ⟨rfl, rfl, rfl⟩ := hcs
    have hspot : 0 < len → a.spot = none := by
      intro h0
      have h1 := hel 0 h0
      rw [List.getElem?_eq_getElem (by omega), Option.bind_eq_some_iff] at h1
      obtain ⟨cs, hcs, ht⟩ := h1
      rw [cellsItem'] at hcs
      obtain ⟨_, hcl, hcell⟩ := World.cells?_some hcs
      have h2 := hcell 0 (by decide)
      rw [List.getElem?_eq_getElem (by omega)] at h2
      have h3 := World.cell?_spot h2
      simpa [Addr.add] using h3
    have each : ∀ i : Nat, ∃ y : Ar, i < len → (∃ b off, some a = some (⟨b, off, none⟩ : Addr) ∧ (∀ (j : Nat) (n : Int), y.hd[j]? = some n → W.cell? ⟨b, off + i * (2 + 1) + j, none⟩ = some (.int .i64 n)) ∧ W.cell? ⟨b, off + i * (2 + 1) + 2, none⟩ = some (.slice y.oa y.len y.cap) ∧ y.hd.length = 2 ∧ SlB W y.oa y.len y.d ∧ y.len ≤ maxLen) := by
      intro i
      by_cases hi : i < len
      · have h1 := hel i hi
        have hsp := hspot (by omega)
        rw [List.getElem?_eq_getElem (by omega), Option.bind_eq_some_iff] at h1
        obtain ⟨cs, hcs, ht⟩ := h1
        rw [cellsItem'] at hcs
        obtain ⟨_, hcl, hcell⟩ := World.cells?_some hcs
        obtain ⟨n0, n1, oa', len', cap', zs, rfl, hs, hmx⟩ := openItem ht (fun _ => rfl)
        refine ⟨⟨[n0, n1], oa', len', cap', zs⟩, fun _ => ?_⟩
        obtain ⟨ab, ao, asp⟩ := a
        simp only at hsp
        subst hsp
        have g : ∀ j v, j < 3 → [Value.int .i64 n0, Value.int .i64 n1, Value.slice oa' len' cap'][j]? = some v → W.cell? ⟨ab, ao + i * 3 + j, none⟩ = some v := by
          intro j v hj hv
          have h2 := hcell j hj
          rw [hv, add_none, add_none] at h2
          exact h2
        refine ⟨ab, ao, rfl, fun j n hn => ?_, g 2 _ (by decide) rfl, rfl, hs, hmx⟩
        have hj := (List.getElem?_eq_some_iff.1 hn).1
        simp only [List.length_cons, List.length_nil] at hj
        refine g j _ (by omega) ?_
        rcases (show j = 0 ∨ j = 1 by omega) with rfl | rfl <;> (simp at hn; simp [hn])
      · exact ⟨⟨[], none, 0, 0, []⟩, fun h => absurd h hi⟩
    refine ⟨(List.range len).map (fun i => (each i).choose), fun i x hx => ?_, by simp, by omega, fun e => by cases e⟩
    rw [List.getElem?_map] at hx
    obtain ⟨j, hj, rfl⟩ := Option.map_eq_some_iff.1 hx
    obtain ⟨hi, rfl⟩ := List.getElem?_eq_some_iff.1 hj
    simp only [List.length_range] at hi
    have := (each i).choose_spec hi
    simpa using this

theorem cellsSession' : Tryd.prog.cellsOf 112 = 4 := by kernel_rfl
set_option maxRecDepth 100000 in
theorem openSession {H : Type} {enc : TypeId × Value → H} {W : World} {sp : Nat → Bool} {fuel : Nat} {cs : List Value} {x : DataW H × List MemPlace} (h : DataW.trod enc Tryd.prog W 0 sp true fuel 112 cs = some x) (hsp : ∀ b, sp b = true) :
    ∃ n0 n1 n2 : Int, ∃ (oa : Option Addr) (len cap : Nat) (zs : List Nat), cs = [.int .i64 n0, .int .i64 n1, .int .i64 n2, .slice oa len cap] ∧ SlB W oa len zs ∧ len ≤ maxLen := by
  obtain rfl : sp = fun _ => true := funext hsp
  obtain ⟨xs, n, rfl, -, hl, hlen, hf⟩ := DataW.trod_struct Tryd.underlying112 h
  rw [cellsSession'] at hl
  match cs, hl with
  | [c0, c1, c2, cz], _ =>
    have h0 : DataW.trod enc Tryd.prog W 0 (fun _ => true) true n 3 [c0] = xs[0]? := by have h9 : DataW.trod enc Tryd.prog W 0 (fun _ => true) true n 3 (List.take (Tryd.prog.cellsOf 3) (List.drop 0 [c0, c1, c2, cz])) = xs[0]? := hf 0 _ rfl; rw [cellsInt] at h9; exact h9
    have h1 : DataW.trod enc Tryd.prog W 0 (fun _ => true) true n 3 [c1] = xs[1]? := by have h9 : DataW.trod enc Tryd.prog W 0 (fun _ => true) true n 3 (List.take (Tryd.prog.cellsOf 3) (List.drop 1 [c0, c1, c2, cz])) = xs[1]? := hf 1 _ rfl; rw [cellsInt] at h9; exact h9
    have h2 : DataW.trod enc Tryd.prog W 0 (fun _ => true) true n 3 [c2] = xs[2]? := by have h9 : DataW.trod enc Tryd.prog W 0 (fun _ => true) true n 3 (List.take (Tryd.prog.cellsOf 3) (List.drop 2 [c0, c1, c2, cz])) = xs[2]? := hf 2 _ rfl; rw [cellsInt] at h9; exact h9
    have h3 : DataW.trod enc Tryd.prog W 0 (fun _ => true) true n 22 [cz] = xs[3]? := by have h9 : DataW.trod enc Tryd.prog W 0 (fun _ => true) true n 22 (List.take (Tryd.prog.cellsOf 22) (List.drop 3 [c0, c1, c2, cz])) = xs[3]? := hf 3 _ rfl; rw [cellsBy] at h9; exact h9
    obtain ⟨n0, e0⟩ : ∃ n, c0 = .int .i64 n := by
      obtain ⟨y, hy⟩ : ∃ y, xs[0]? = some y := ⟨_, List.getElem?_eq_getElem (by rw [hlen]; decide)⟩
      rw [hy] at h0
      obtain ⟨n, e, -, -⟩ := DataW.trod_int Tryd.underlying3 h0
      exact ⟨n, by simpa using e⟩
    obtain ⟨n1, e1⟩ : ∃ n, c1 = .int .i64 n := by
      obtain ⟨y, hy⟩ : ∃ y, xs[1]? = some y := ⟨_, List.getElem?_eq_getElem (by rw [hlen]; decide)⟩
      rw [hy] at h1
      obtain ⟨n, e, -, -⟩ := DataW.trod_int Tryd.underlying3 h1
      exact ⟨n, by simpa using e⟩
    obtain ⟨n2, e2⟩ : ∃ n, c2 = .int .i64 n := by
      obtain ⟨y, hy⟩ : ∃ y, xs[2]? = some y := ⟨_, List.getElem?_eq_getElem (by rw [hlen]; decide)⟩
      rw [hy] at h2
      obtain ⟨n, e, -, -⟩ := DataW.trod_int Tryd.underlying3 h2
      exact ⟨n, by simpa using e⟩
    obtain ⟨oa, len, cap, hz⟩ : ∃ oa len cap, cz = .slice oa len cap := by
      obtain ⟨y, hy⟩ : ∃ y, xs[3]? = some y := ⟨_, List.getElem?_eq_getElem (by rw [hlen]; decide)⟩
      rw [hy] at h3
      rcases DataW.trod_slice Tryd.underlying22 h3 with ⟨h, _⟩ | ⟨x, l, c, _, _, _, _, h, _⟩
      · simp at h; exact ⟨none, 0, 0, h⟩
      · simp at h; exact ⟨some x, l, c, h⟩
    subst hz
    obtain ⟨y, hy⟩ : ∃ y, xs[3]? = some y := ⟨_, List.getElem?_eq_getElem (by rw [hlen]; decide)⟩
    rw [hy] at h3
    obtain ⟨zs, hs, hmx⟩ := slb_open (a := oa) (len := len) (cap := cap) Tryd.underlying22 Tryd.underlying5 cellsU8' ⟨_, by simpa [Value.cells] using h3⟩
    exact ⟨n0, n1, n2, oa, len, cap, zs, by simp [e0, e1, e2], hs, hmx⟩
set_option maxRecDepth 100000 in
theorem openSessionS {H : Type} {enc : TypeId × Value → H} {W : World} {fuel : Nat} {oa : Option Addr} {len cap : Nat} {x : DataW H × List MemPlace} (h : DataW.trod enc Tryd.prog W 0 (fun _ => true) true fuel 48 [.slice oa len cap] = some x) :
    ∃ A, ArSl W 3 oa A ∧ A.length = len ∧ len ≤ maxLen ∧ (oa = none → cap = 0) := by
  rcases DataW.trod_slice Tryd.underlying48 h with ⟨h0, _⟩ | ⟨a, len', cap', elems, rest, n, _, hcs, -, _, hl, hm, hlen, hel, _, _⟩
  · simp at h0
    obtain ⟨rfl, rfl, rfl⟩ := h0
    exact ⟨[], fun i x hx => by simp at hx, rfl, Nat.zero_le _, fun _ => rfl⟩
  · simp at hcs
    obtain ⟨rfl, rfl, rfl⟩ := hcs
    have hspot : 0 < len → a.spot = none := by
      intro h0
      have h1 := hel 0 h0
      rw [List.getElem?_eq_getElem (by omega), Option.bind_eq_some_iff] at h1
      obtain ⟨cs, hcs, ht⟩ := h1
      rw [cellsSession'] at hcs
      obtain ⟨_, hcl, hcell⟩ := World.cells?_some hcs
      have h2 := hcell 0 (by decide)
      rw [List.getElem?_eq_getElem (by omega)] at h2
      have h3 := World.cell?_spot h2
      simpa [Addr.add] using h3
    have each : ∀ i : Nat, ∃ y : Ar, i < len → (∃ b off, some a = some (⟨b, off, none⟩ : Addr) ∧ (∀ (j : Nat) (n : Int), y.hd[j]? = some n → W.cell? ⟨b, off + i * (3 + 1) + j, none⟩ = some (.int .i64 n)) ∧ W.cell? ⟨b, off + i * (3 + 1) + 3, none⟩ = some (.slice y.oa y.len y.cap) ∧ y.hd.length = 3 ∧ SlB W y.oa y.len y.d ∧ y.len ≤ maxLen) := by
      intro i
      by_cases hi : i < len
      · have h1 := hel i hi
        have hsp := hspot (by omega)
        rw [List.getElem?_eq_getElem (by omega), Option.bind_eq_some_iff] at h1
        obtain ⟨cs, hcs, ht⟩ := h1
        rw [cellsSession'] at hcs
        obtain ⟨_, hcl, hcell⟩ := World.cells?_some hcs
        obtain ⟨n0, n1, n2, oa', len', cap', zs, rfl, hs, hmx⟩ := openSession ht (fun _ => rfl)
        refine ⟨⟨[n0, n1, n2], oa', len', cap', zs⟩, fun _ => ?_⟩
        obtain ⟨ab, ao, asp⟩ := a
        simp only at hsp
        subst hsp
        have g : ∀ j v, j < 4 → [Value.int .i64 n0, Value.int .i64 n1, Value.int .i64 n2, Value.slice oa' len' cap'][j]? = some v → W.cell? ⟨ab, ao + i * 4 + j, none⟩ = some v := by
          intro j v hj hv
          have h2 := hcell j hj
          rw [hv, add_none, add_none] at h2
          exact h2
        refine ⟨ab, ao, rfl, fun j n hn => ?_, g 3 _ (by decide) rfl, rfl, hs, hmx⟩
        have hj := (List.getElem?_eq_some_iff.1 hn).1
        simp only [List.length_cons, List.length_nil] at hj
        refine g j _ (by omega) ?_
        rcases (show j = 0 ∨ j = 1 ∨ j = 2 by omega) with rfl | rfl | rfl <;> (simp at hn; simp [hn])
      · exact ⟨⟨[], none, 0, 0, []⟩, fun h => absurd h hi⟩
    refine ⟨(List.range len).map (fun i => (each i).choose), fun i x hx => ?_, by simp, by omega, fun e => by cases e⟩
    rw [List.getElem?_map] at hx
    obtain ⟨j, hj, rfl⟩ := Option.map_eq_some_iff.1 hx
    obtain ⟨hi, rfl⟩ := List.getElem?_eq_some_iff.1 hj
    simp only [List.length_range] at hi
    have := (each i).choose_spec hi
    simpa using this
end Go.Proofs.YtdajcpcajdhplaaDoor

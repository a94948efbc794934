/-
  FnFrames' first loop, in words: what is laid behind some rounds, and what each of a round's three appends does to it.
-/
import Derived.Test.YteacgefklafofaaDoorDraw2
import Derived.Test.YteacgefklafofaaDoorSmBytes
import Derived.Test.YteacgefklafofaaDoorScanImpl
import Derived.Test.YteacgefklafofaaDoorFrameMath
import Derived.Test.YteacgefklafofaaDoorEnc3
namespace Go.Proofs.YteacgefklafofaaDoor
open Go.RowKit

/-- where the first i records of l end -/
def endAt (l : List (Nat × List Nat)) (i : Nat) : Nat := (encAll (l.take i)).length
def endsV (l : List (Nat × List Nat)) : List Value := (List.range (l.length + 1)).map fun i => .int .i64 ((endAt l i : Nat) : Int)
/-- what stands behind some rounds of the first loop: the records (R1), the bytes of R2, where each of R3 ends -/
structure Lay (w : World) (base s : Nat) (zs : List Nat) (all b ends : Value) (R1 R2 R3 : List Rc) : Prop where
  recs : RecRow w base all R1
  there : ∃ g n c, all = .slice (some ⟨g, 0, none⟩) n c
  good : ∀ r ∈ R1, Good r.tell
  src : Src w s zs
  below : s < base
  row : ∃ g n c, b = .slice (some ⟨g, 0, none⟩) n c ∧ n = (encAll (R2.map Rc.tell)).length ∧ g ∉ R1.map Rc.g ∧ w.ownsRow base 5 1 b n ((encAll (R2.map Rc.tell)).map bv)
  stops : ∃ g c, ends = .slice (some ⟨g, 0, none⟩) (R3.length + 1) c ∧ w.ownsRow base 3 1 ends (R3.length + 1) (endsV (R3.map Rc.tell))
  tab : Tab w
  glob : 0 < s
theorem Hid.mk' {p : Prop} (h : p) : Hid p := h
theorem row_block {w : World} {base e size g n c : Nat} {xs : List Value} (h : w.ownsRow base e size (.slice (some ⟨g, 0, none⟩) n c) n xs) : ∃ cur, w.heap[g]? = some (.cells cur e (0, 0)) := by
  rcases h.2 with ⟨h', _⟩ | ⟨g', cap', cur, h', _, hg, _⟩
  · simp at h'
  · simp only [Value.slice.injEq, Option.some.injEq, Addr.mk.injEq, and_true, true_and] at h'
    obtain ⟨rfl, _⟩ := h'
    exact ⟨cur, hg⟩
theorem rows_apart {w : World} {base base' e e' size size' g g' n n' c c' : Nat} {xs xs' : List Value} (h : w.ownsRow base e size (.slice (some ⟨g, 0, none⟩) n c) n xs) (h' : w.ownsRow base' e' size' (.slice (some ⟨g', 0, none⟩) n' c') n' xs') (hne : e ≠ e') : g ≠ g' := by
  rintro rfl
  obtain ⟨cur, h1⟩ := row_block h
  obtain ⟨cur', h2⟩ := row_block h'
  rw [h1] at h2
  simp only [Option.some.injEq, Obj.cells.injEq] at h2
  exact hne h2.2.1
theorem own_apart {w : World} {base e e' size g g' n c : Nat} {xs : List Value} {zs : List Nat} (h : w.ownsRow base e size (.slice (some ⟨g, 0, none⟩) n c) n xs) (h' : Own w e' g' zs) (hne : e ≠ e') : g ≠ g' := by
  rintro rfl
  obtain ⟨cur, h1⟩ := row_block h
  exact hne (h'.type h1).symm
/-- a write elsewhere -/
theorem Lay.far {w w' : World} {base s : Nat} {zs : List Nat} {all b ends : Value} {R1 R2 R3 : List Rc} {row : Option Nat} (h : Lay w base s zs all b ends R1 R2 R3) (hg : w.grownBy w' row) (hs : Src w' s zs) (ht : Tab w')
    (h1 : all.ownBlock ≠ row) (h2 : b.ownBlock ≠ row) (h3 : ends.ownBlock ≠ row) (h4 : ∀ r ∈ R1, some r.g ≠ row) : Lay w' base s zs all b ends R1 R2 R3 := by
  obtain ⟨gb, nb, cb, hb1, hb2, hb3, hb4⟩ := h.row
  obtain ⟨ge, ce, he1, he2⟩ := h.stops
  exact ⟨⟨h.recs.1.kept hg (.inr h1), fun r hr => ⟨(h.recs.2.1 r hr).1, (h.recs.2.1 r hr).2.grown hg (h4 r hr)⟩, h.recs.2.2⟩, h.there, h.good, hs, h.below, ⟨gb, nb, cb, hb1, hb2, hb3, hb4.kept hg (.inr h2)⟩, ⟨ge, ce, he1, he2.kept hg (.inr h3)⟩, ht, h.glob⟩
theorem Lay.base_le {w : World} {base s : Nat} {zs : List Nat} {all b ends : Value} {R1 R2 R3 : List Rc} (h : Lay w base s zs all b ends R1 R2 R3) : (∀ k, all.ownBlock = some k → base ≤ k) ∧ (∀ k, b.ownBlock = some k → base ≤ k) ∧ (∀ k, ends.ownBlock = some k → base ≤ k) ∧ ∀ r ∈ R1, base ≤ r.g := by
  obtain ⟨gb, nb, cb, hb1, hb2, hb3, hb4⟩ := h.row
  obtain ⟨ge, ce, he1, he2⟩ := h.stops
  exact ⟨fun k e => (h.recs.1.lt k e).1, fun k e => (hb4.lt k e).1, fun k e => (he2.lt k e).1, fun r hr => (h.recs.2.1 r hr).1⟩
theorem Lay.grown {w w' : World} {base s : Nat} {zs : List Nat} {all b ends : Value} {R1 R2 R3 : List Rc} {row : Option Nat} (h : Lay w base s zs all b ends R1 R2 R3) (hg : w.grownBy w' row) (hr : ∀ r, row = some r → r = s) (hs : Src w' s zs) : Lay w' base s zs all b ends R1 R2 R3 := by
  have hb := h.below
  have hgl := h.glob
  obtain ⟨k1, k2, k3, k4⟩ := h.base_le
  obtain ⟨ga, na, ca, ha1⟩ := h.there
  obtain ⟨gb, nb, cb, hb1, -⟩ := h.row
  obtain ⟨ge, ce, he1, -⟩ := h.stops
  refine h.far hg hs (Tab_row h.tab hg (fun e => by have := hr _ e.symm; omega)) ?_ ?_ ?_ (fun r hr' e => by have := hr _ e.symm; have := k4 r hr'; omega)
  · intro e; rw [ha1] at e k1; have := hr ga e.symm; have := k1 ga rfl; omega
  · intro e; rw [hb1] at e k2; have := hr gb e.symm; have := k2 gb rfl; omega
  · intro e; rw [he1] at e k3; have := hr ge e.symm; have := k3 ge rfl; omega
theorem Lay.draw {w0 w w' : World} {base s : Nat} {zs : List Nat} {all b ends : Value} {R1 R2 R3 : List Rc} (h : Lay w base s zs all b ends R1 R2 R3 ∧ w0.grownBy w none) (hS : w0.heap.size ≤ s) (hg : w.grownBy w' (some s)) (hs : Src w' s zs) : Lay w' base s zs all b ends R1 R2 R3 ∧ w0.grownBy w' none :=
  ⟨h.1.grown hg (by rintro r ⟨⟩; rfl) hs, grownBy_new h.2 hg hS⟩
theorem Lay.more {w0 w w' : World} {base s : Nat} {zs : List Nat} {all b ends : Value} {R1 R2 R3 : List Rc} (h : Lay w base s zs all b ends R1 R2 R3 ∧ w0.grownBy w none) (hg : w.grownBy w' none) : Lay w' base s zs all b ends R1 R2 R3 ∧ w0.grownBy w' none :=
  ⟨h.1.grown hg (by simp) (h.1.src.grown0 hg), grownBy_trans h.2 hg⟩
/-- a record more -/
theorem Lay.stepA {w w' : World} {base s : Nat} {zs : List Nat} {all b ends v' : Value} {R R2 R3 : List Rc} {r : Rc} (h : Lay w base s zs all b ends R R2 R3) (hr : Good r.tell) (hO : Own w 5 r.g r.data) (hb : base ≤ r.g) (hn : r.g ∉ R.map Rc.g) (hnb : b.ownBlock ≠ some r.g)
    (hown : w'.ownsRow base 33 2 v' (R.length + 1) (R.flatMap Rc.cells ++ r.cells)) (hg : w.grownBy w' all.ownBlock) : Lay w' base s zs v' b ends (R ++ [r]) R2 R3 ∧ ∀ g ds, Own w 5 g ds → Own w' 5 g ds := by
  have hbe := h.below
  have hgl := h.glob
  obtain ⟨k1, -, -, -⟩ := h.base_le
  obtain ⟨ga, na, ca, rfl⟩ := h.there
  obtain ⟨gb, nb, cb, rfl, hb2, hb3, hb4⟩ := h.row
  obtain ⟨ge, ce, rfl, he2⟩ := h.stops
  have hga := k1 ga rfl
  have hna : na = R.length := by
    rcases h.recs.1.2 with ⟨h', _⟩ | ⟨g', cap', cur, h', _⟩
    · simp at h'
    · simp only [Value.slice.injEq, Option.some.injEq, Addr.mk.injEq, and_true] at h'
      omega
  subst hna
  have n1 : ga ≠ gb := rows_apart h.recs.1 hb4 (by decide)
  have n2 : ga ≠ ge := rows_apart h.recs.1 he2 (by decide)
  obtain ⟨g', c', hv'⟩ : ∃ g' c', v' = .slice (some ⟨g', 0, none⟩) (R.length + 1) c' := by
    rcases hown.2 with ⟨_, h'⟩ | ⟨g', cap', cur, h', _⟩
    · omega
    · exact ⟨g', cap', h'⟩
  refine ⟨⟨h.recs.append hO hb hn hown hg, ⟨g', _, c', hv'⟩, ?_, h.src.grown hg (fun r' e => by simp only [Value.ownBlock, Option.some.injEq] at e; omega), hbe, ⟨gb, nb, cb, rfl, hb2, ?_, hb4.kept hg (.inr fun e => n1 (by simpa [Value.ownBlock] using e.symm))⟩, ⟨ge, ce, rfl, he2.kept hg (.inr fun e => n2 (by simpa [Value.ownBlock] using e.symm))⟩, Tab_row h.tab hg (fun e => by simp only [Value.ownBlock, Option.some.injEq] at e; omega), hgl⟩, fun g ds hgd => hgd.grown hg (fun e => own_apart h.recs.1 hgd (by decide) (by simpa [Value.ownBlock] using e.symm))⟩
  · intro r' hr'
    rcases List.mem_append.1 hr' with h1 | h1
    · exact h.good r' h1
    · obtain rfl : r' = r := by simpa using h1
      exact hr
  · rw [List.map_append, List.mem_append]
    rintro (h1 | h1)
    · exact hb3 h1
    · simp only [List.map_cons, List.map_nil, List.mem_singleton] at h1
      exact hnb (by rw [h1]; rfl)
theorem rec_laid (w : World) (x y : Value) : ∃ W, w.alloc (.cells #[x, y] 33) = W ∧ W.heap[w.heap.size]? = some (.cells #[x, y] 33 (0, 0)) ∧ w.grownBy W none :=
  ⟨_, rfl, heap_alloc_new w _, World.grownBy_alloc _ _ _⟩
/-- the record copied and laid down as bytes, from any world that is W7 but for draws -/
theorem cpEnc (W7 : World) (r8 gd n cd ty : Nat) (xs : List Nat) (h1 : 1 ≤ ty) (h2 : ty ≤ 255) (hn : n ≤ 40) (hl : xs.length = n) (hr : r8 < W7.heap.size) (hb : W7.heap[r8]? = some (.cells #[.int .i64 (ty : Int), .slice (some ⟨gd, 0, none⟩) n cd] 33 (0, 0))) (hO : Own W7 5 gd xs) (ht : Tab W7) :
    ∀ w', Same W7 w' → Calls Tryd.prog 31 #[.slice (some ⟨gd, 0, none⟩) n cd] w' fun e w2 => ∃ g8 c8, e = .returned (.slice (some ⟨g8, 0, none⟩) n c8) ∧ w2.cell? ⟨r8, 0, none⟩ = some (.int .i64 (ty : Int)) ∧
      Hid (∀ w3, Same w2 w3 → Calls Tryd.prog 15 #[.agg #[.int .i64 (ty : Int), .slice (some ⟨g8, 0, none⟩) n c8]] w3 fun e w4 => ∃ g9 m, e = .returned (.tuple #[.slice (some ⟨g9, 0, none⟩) m m, .int .i64 0]) ∧ Hid (m = (enc ty xs).length ∧ W7.heap.size ≤ g9 ∧ Own w4 5 g9 (enc ty xs) ∧ W7.grownBy w4 none)) := by
  intro w' hw'
  have G0 : W7.grownBy w' none := grownBy_same (grownBy_refl _ _) hw'
  refine (cp_any (some ⟨gd, 0, none⟩) n cd xs w' ((hO.grown G0 (by simp)).sl n hl) (by omega)).mono ?_
  rintro e w2 ⟨g8, c8, rfl, hO8, hG8⟩
  have G2 := grownBy_trans G0 hG8
  have hz : ∀ z ∈ xs, z < 256 := hO.1
  have hO2 := own_made hO8 hz
  refine ⟨g8, c8, rfl, ?_, fun w3 hw3 => ?_⟩
  · have := (G2.block r8 hr (by simp)).trans hb
    simp [World.cell?, this]
  · have G3 := grownBy_same G2 hw3
    refine (implEncode_ok ty (some ⟨g8, 0, none⟩) n c8 xs w3 h1 h2 (by omega) ((hO2.heap hw3.1).sl n hl) (Tab_grown ht G3)).mono ?_
    rintro e w4 ⟨g9, m, rfl, hm, hg9, hO9, hG9⟩
    exact ⟨g9, m, rfl, hm, Nat.le_trans G3.size hg9, hO9, grownBy_trans G3 hG9⟩
theorem Lay.start {w1 : World} {s : Nat} {zs : List Nat} (hs : Src w1 s zs) (ht : Tab w1) (hgl : 0 < s) :
    Lay (((w1.alloc (.cells #[] 33)).alloc (.cells #[] 5)).alloc (.cells #[.int .i64 0] 3)) w1.heap.size s zs (.slice (some ⟨w1.heap.size, 0, none⟩) 0 0) (.slice (some ⟨w1.heap.size + 1, 0, none⟩) 0 0) (.slice (some ⟨w1.heap.size + 1 + 1, 0, none⟩) 1 1) [] [] [] := by
  have G : w1.grownBy (((w1.alloc (.cells #[] 33)).alloc (.cells #[] 5)).alloc (.cells #[.int .i64 0] 3)) none := grownBy_alloc (grownBy_alloc (World.grownBy_alloc _ _ _) _) _
  refine ⟨⟨?_, by simp, by simp⟩, ⟨_, _, _, rfl⟩, by simp, hs.grown0 G, hs.lt, ⟨w1.heap.size + 1, 0, 0, rfl, rfl, by simp, ?_⟩, ⟨_, _, rfl, ?_⟩, Tab_grown ht G, hgl⟩
  · exact ((World.ownsRow_made w1 #[] 0 (Nat.le_refl _) (Nat.zero_le _) rfl).alloc _).alloc _
  · have := (World.ownsRow_made (base := w1.heap.size) (e := 5) (size := 1) (w1.alloc (.cells #[] 33)) #[] 0 (by simp) (Nat.zero_le _) rfl)
    exact World.ownsRow.alloc (by simpa [encAll] using this) _
  · have := (World.ownsRow_lit (base := w1.heap.size) (e := 3) (size := 1) ((w1.alloc (.cells #[] 33)).alloc (.cells #[] 5)) #[.int .i64 0] 1 (by simp; omega) (by decide) rfl)
    simpa [endsV, endAt, encAll] using this
theorem encAll_snoc (l : List (Nat × List Nat)) (p : Nat × List Nat) : encAll (l ++ [p]) = encAll l ++ enc p.1 p.2 := by
  induction l with
  | nil => simp [encAll]
  | cons q l ih => simp [encAll] at ih ⊢; try (rw [ih])
theorem endsV_snoc (l : List (Nat × List Nat)) (p : Nat × List Nat) : endsV (l ++ [p]) = endsV l ++ [.int .i64 (((encAll (l ++ [p])).length : Nat) : Int)] := by
  unfold endsV
  rw [List.length_append, List.length_singleton, List.range_succ (n := l.length + 1), List.map_append]
  congr 1
  · apply List.map_congr_left
    intro i hi
    have : i ≤ l.length := by have := List.mem_range.1 hi; omega
    unfold endAt
    rw [List.take_append_of_le_length this]
  · simp [endAt, List.take_of_length_le]
/-- its bytes behind the others' -/
theorem Lay.stepB {w w' : World} {base s gb nb cb m g' c' : Nat} {zs : List Nat} {all ends : Value} {R1 R2 R3 : List Rc} (r : Rc) (h : Lay w base s zs all (.slice (some ⟨gb, 0, none⟩) nb cb) ends R1 R2 R3) (hm : m = (enc r.ty r.data).length)
    (hown : w'.ownsRow base 5 1 (.slice (some ⟨g', 0, none⟩) (nb + m) c') (nb + m) ((encAll (R2.map Rc.tell) ++ enc r.ty r.data).map bv)) (hg : w.grownBy w' (some gb)) (hat : g' = gb ∨ g' = w.heap.size) :
    Lay w' base s zs all (.slice (some ⟨g', 0, none⟩) (nb + m) c') ends R1 (R2 ++ [r]) R3 := by
  have hbe := h.below
  have hgl := h.glob
  obtain ⟨k1, k2, -, -⟩ := h.base_le
  obtain ⟨gb', nb', cb', hb1, hb2, hb3, hb4⟩ := h.row
  simp only [Value.slice.injEq, Option.some.injEq, Addr.mk.injEq, and_true] at hb1
  obtain ⟨rfl, rfl, rfl⟩ := hb1
  obtain ⟨ge, ce, rfl, he2⟩ := h.stops
  obtain ⟨ga, na, ca, rfl⟩ := h.there
  have hna : na = R1.length := by
    rcases h.recs.1.2 with ⟨h', _⟩ | ⟨g', cap', cur, h', _⟩
    · simp at h'
    · simp only [Value.slice.injEq, Option.some.injEq, Addr.mk.injEq, and_true] at h'
      omega
  subst hna
  have hgb := k2 gb rfl
  have n1 : ga ≠ gb := rows_apart h.recs.1 hb4 (by decide)
  have n2 : ge ≠ gb := rows_apart he2 hb4 (by decide)
  have hb3' : g' ∉ R1.map Rc.g := by
    rcases hat with rfl | rfl
    · exact hb3
    · intro hm'
      obtain ⟨r', hr', e⟩ := List.mem_map.1 hm'
      have := h.recs.lt r' hr'
      omega
  refine ⟨⟨h.recs.1.kept hg (.inr (by simpa [Value.ownBlock] using n1)), fun r' hr' => ⟨(h.recs.2.1 r' hr').1, (h.recs.2.1 r' hr').2.grown hg (fun e => hb3 (List.mem_map.2 ⟨r', hr', by simpa using e⟩))⟩, h.recs.2.2⟩, h.there, h.good, h.src.grown hg (fun r' e => by simp only [Option.some.injEq] at e; omega), hbe,
    ⟨g', _, c', rfl, by rw [List.map_append, List.map_cons, List.map_nil, encAll_snoc, List.length_append, hb2, hm]; rfl, hb3', ?_⟩, ⟨ge, ce, rfl, he2.kept hg (.inr (by simpa [Value.ownBlock] using n2))⟩, Tab_row h.tab hg (fun e => by simp only [Option.some.injEq] at e; omega), hgl⟩
  rw [List.map_append, List.map_cons, List.map_nil, encAll_snoc]
  exact hown
/-- and where it ends -/
theorem Lay.stepC {w w' : World} {base s ge ce : Nat} {zs : List Nat} {all b v' : Value} {R1 R2 R3 : List Rc} (r : Rc) (h : Lay w base s zs all b (.slice (some ⟨ge, 0, none⟩) (R3.length + 1) ce) R1 R2 R3)
    (hown : w'.ownsRow base 3 1 v' (R3.length + 1 + 1) (endsV (R3.map Rc.tell) ++ [.int .i64 (((encAll ((R3 ++ [r]).map Rc.tell)).length : Nat) : Int)])) (hg : w.grownBy w' (some ge)) :
    Lay w' base s zs all b v' R1 R2 (R3 ++ [r]) := by
  have hbe := h.below
  have hgl := h.glob
  obtain ⟨-, -, k3, -⟩ := h.base_le
  obtain ⟨gb, nb, cb, rfl, hb2, hb3, hb4⟩ := h.row
  obtain ⟨ge', ce', he1, he2⟩ := h.stops
  simp only [Value.slice.injEq, Option.some.injEq, Addr.mk.injEq, and_true, true_and] at he1
  obtain ⟨rfl, rfl⟩ := he1
  obtain ⟨ga, na, ca, rfl⟩ := h.there
  have hna : na = R1.length := by
    rcases h.recs.1.2 with ⟨h', _⟩ | ⟨g', cap', cur, h', _⟩
    · simp at h'
    · simp only [Value.slice.injEq, Option.some.injEq, Addr.mk.injEq, and_true] at h'
      omega
  subst hna
  have hge := k3 ge rfl
  have n1 : ga ≠ ge := rows_apart h.recs.1 he2 (by decide)
  have n2 : gb ≠ ge := rows_apart hb4 he2 (by decide)
  obtain ⟨g', c', hv'⟩ : ∃ g' c', v' = .slice (some ⟨g', 0, none⟩) (R3.length + 1 + 1) c' := by
    rcases hown.2 with ⟨_, h'⟩ | ⟨g', cap', cur, h', _⟩
    · omega
    · exact ⟨g', cap', h'⟩
  subst hv'
  refine ⟨⟨h.recs.1.kept hg (.inr (by simpa [Value.ownBlock] using n1)), fun r' hr' => ⟨(h.recs.2.1 r' hr').1, (h.recs.2.1 r' hr').2.grown hg (fun e => own_apart he2 (h.recs.2.1 r' hr').2 (by decide) (by simpa using e.symm))⟩, h.recs.2.2⟩, h.there, h.good, h.src.grown hg (fun r' e => by simp only [Option.some.injEq] at e; omega), hbe,
    ⟨gb, nb, cb, rfl, hb2, hb3, hb4.kept hg (.inr (by simpa [Value.ownBlock] using n2))⟩, ⟨g', c', by simp, ?_⟩, Tab_row h.tab hg (fun e => by simp only [Option.some.injEq] at e; omega), hgl⟩
  have e1 : (R3 ++ [r]).length + 1 = R3.length + 1 + 1 := by simp
  rw [e1, List.map_append, List.map_cons, List.map_nil, endsV_snoc]
  rw [List.map_append, List.map_cons, List.map_nil] at hown
  exact hown
end Go.Proofs.YteacgefklafofaaDoor

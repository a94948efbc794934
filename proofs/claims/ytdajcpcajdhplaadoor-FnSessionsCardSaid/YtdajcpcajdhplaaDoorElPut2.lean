/-
  A session put in a session's place, an item behind the kept ones: what lies there then.
-/
import Derived.Test.YtdajcpcajdhplaaDoorElPut
namespace Go.Proofs.YtdajcpcajdhplaaDoor
open Go.RowKit

theorem ownS_kept {w w' : World} {e : TypeId} {o : Option Nat} {n : Nat} {zs : List Nat} (h : OwnS w e (oad o) n zs) (hk : ∀ g, o = some g → g < w.heap.size → w'.heap[g]? = w.heap[g]?) : OwnS w' e (oad o) n zs := by
  obtain ⟨h1, h2⟩ := h
  refine ⟨h1, ?_⟩
  rcases h2 with h2 | ⟨b, hb, hOb⟩
  · exact .inl h2
  · refine .inr ⟨b, hb, hOb.of_block (hk b ?_ hOb.lt)⟩
    cases ho : o with
    | none => rw [ho] at hb; cases hb
    | some c => rw [ho] at hb; simpa [oad] using hb
theorem ElAt.blt {w : World} {t : TypeId} {m g : Nat} {L : List El} (h : ElAt w t m g L) {i : Nat} {x : El} (hx : L[i]? = some x) {b : Nat} (hb : x.o = some b) : b < w.heap.size := (ownS_blk (h.own i x hx).2.1 hb).lt
theorem el_replace {w w4 : World} {gs k gd cd : Nat} {S : List El} {x : El} {n0 n1 n2 : Int} {d : List Nat} (hS : ElAt w 74 3 gs S) (hx : S[k]? = some x) (hG : w.grownBy w4 none) (hgd : w.heap.size ≤ gd) (hO : Own w4 5 gd d) :
    ElAt (put4 w4 gs k (.int .i64 n0) (.int .i64 n1) (.int .i64 n2) (.slice (some ⟨gd, 0, none⟩) d.length cd)) 74 3 gs (S.set k ⟨[n0, n1, n2], d, some gd, cd⟩) := by
  obtain ⟨cur, h1, h2⟩ := hS.row
  have hgl := hS.lt
  have hk : k < S.length := (List.getElem?_eq_some_iff.1 hx).1
  have h1' := (hG.block _ hgl (by simp)).trans h1
  have h3 := (Array.getElem?_eq_some_iff.1 (h2 k x hx).2).1
  refine el_put4 (x := ⟨[n0, n1, n2], d, some gd, cd⟩) h1' (by omega) (fun i y hy hik => ?_) (List.getElem?_set_self hk) rfl (fun i y hy => ?_) (fun i j y z b hy hz hyo hzo => ?_)
  · rcases el_set_get hk hy with ⟨h, _⟩ | ⟨_, hy'⟩
    · exact absurd h hik
    · exact ⟨(hS.own i y hy').1, (h2 i y hy').1, (h2 i y hy').2⟩
  · rcases el_set_get hk hy with ⟨rfl, rfl⟩ | ⟨_, hy'⟩
    · exact ⟨(hO.of_block (put4_other _ _ _ _ _ _ _ _ (by omega))).s rfl, fun h => by cases h⟩
    · refine ⟨ownS_kept (hS.own i y hy').2.1 (fun g hg hgw => ?_), (hS.own i y hy').2.2⟩
      rw [put4_other _ _ _ _ _ _ _ _ (hS.ne (by decide) hy' hg)]
      exact hG.block g hgw (by simp)
  · rcases el_set_get hk hy with ⟨rfl, rfl⟩ | ⟨_, hy'⟩
    · rcases el_set_get hk hz with ⟨rfl, rfl⟩ | ⟨_, hz'⟩
      · rfl
      · have := hS.blt hz' hzo
        have : gd = b := by simpa using hyo
        omega
    · rcases el_set_get hk hz with ⟨rfl, rfl⟩ | ⟨_, hz'⟩
      · have := hS.blt hy' hyo
        have : gd = b := by simpa using hzo
        omega
      · exact hS.far i j y z b hy' hz' hyo hzo
/-- an item behind the kept ones, in a new row -/
theorem el_behind {w w6 : World} {gk g gx cx : Nat} {K : List El} {n0 n1 : Int} {d : List Nat} {T : Array Value} (hK : ElAt w 32 2 gk K) (hkeep : ∀ j, j < w.heap.size → (∃ x ∈ K, x.o = some j) → w6.heap[j]? = w.heap[j]?)
    (hg : w6.heap[g]? = some (.cells ((K.flatMap El.cells).toArray ++ #[.int .i64 n0, .int .i64 n1, .slice (some ⟨gx, 0, none⟩) d.length cx] ++ T) 32 (0, 0))) (hgx : w.heap.size ≤ gx) (hO : Own w6 5 gx d) :
    ElAt w6 32 2 g (K ++ [⟨[n0, n1], d, some gx, cx⟩]) := by
  have hget : ∀ {i : Nat} {y : El}, (K ++ [⟨[n0, n1], d, some gx, cx⟩])[i]? = some y → (K[i]? = some y) ∨ (i = K.length ∧ y = ⟨[n0, n1], d, some gx, cx⟩) := fun {i y} h => by
    rcases Nat.lt_or_ge i K.length with hi | hi
    · rw [List.getElem?_append_left hi] at h; exact .inl h
    · rw [List.getElem?_append_right hi] at h
      have : i - K.length < 1 := by have := (List.getElem?_eq_some_iff.1 h).1; simpa using this
      have hi' : i = K.length := by omega
      subst hi'
      simp at h
      exact .inr ⟨rfl, h.symm⟩
  have hfl : (K ++ [(⟨[n0, n1], d, some gx, cx⟩ : El)]).flatMap El.cells = K.flatMap El.cells ++ [.int .i64 n0, .int .i64 n1, .slice (some ⟨gx, 0, none⟩) d.length cx] := by
    rw [List.flatMap_append]
    simp [El.cells, oad]
  refine el_of_flat hg (fun j hj => ?_) (fun i y hy => ?_) (fun i j y z b hy hz hyo hzo => ?_)
  · have hl := elflat_len 2 K hK.hds
    rw [hfl, ← Array.getElem?_toList]
    simp only [Array.toList_append]
    rw [List.getElem?_append_left (by simp at hj ⊢; rw [← List.length_flatMap] ; omega)]
  · rcases hget hy with h | ⟨rfl, rfl⟩
    · exact ⟨(hK.own i y h).1, ownS_kept (hK.own i y h).2.1 (fun g' hg' hlt => hkeep g' hlt ⟨y, List.mem_of_getElem? h, hg'⟩), (hK.own i y h).2.2⟩
    · exact ⟨rfl, hO.s rfl, fun h => by cases h⟩
  · rcases hget hy with h | ⟨rfl, rfl⟩ <;> rcases hget hz with h' | ⟨rfl, rfl⟩
    · exact hK.far i j y z b h h' hyo hzo
    · have := hK.blt h hyo
      have : gx = b := by simpa using hzo
      omega
    · have := hK.blt h' hzo
      have : gx = b := by simpa using hyo
      omega
    · rfl
/-- the append of an item onto a full row -/
theorem run_keep {X : World} {gk kn u : Nat} {K : List El} {a b c : Value} (hK : ElAt X 32 2 gk K) (hl : K.length = kn) (hu : X.heap[u]? = some (.cells #[a, b, c] 32 (0, 0))) (hkn : kn ≤ 1048576) (ty : TypeId) :
    ∃ (G : Nat) (w' : World), (Builtin.append_ #[25, 25] ty #[.slice (some ⟨gk, 0, none⟩) kn kn, .slice (some ⟨u, 0, none⟩) 1 1]).run Tryd.prog X = .ok (.slice (some ⟨X.heap.size, 0, none⟩) (kn + 1) G) w' ∧ kn + 1 ≤ G ∧ X.grownBy w' none ∧ ∃ T : Array Value, w'.heap[X.heap.size]? = some (.cells ((K.flatMap El.cells).toArray ++ #[a, b, c] ++ T) 32 (0, 0)) := by
  obtain ⟨i0, hi0, hz0, hzs, hzb⟩ := info_parts Tryd.infoItem
  have h := run_append_grow (w := X) 25 ty 32 i0 _ (by kernel_rfl) hi0 hz0 ⟨gk, 0, none⟩ kn kn (K.flatMap El.cells) (by rw [hzs, elflat_len 2 K hK.hds, hl]) (fun j v h => by rw [Addr.add_lit]; simpa using hK.flat j v h) ⟨u, 0, none⟩ 1 1 [a, b, c] (by rw [hzs]; rfl) (fun j v h => by
    rw [Addr.add_lit]
    simp only [World.cell?, Nat.zero_add, hu]
    rw [← Array.getElem?_toList]
    exact h) (by omega) (by omega) (by rw [hzb]; exact growslice_fits (by omega) (by omega))
  exact ⟨_, _, h, grownCap_ge X _ _ _, grownBy_alloc (grownBy_drew (grownBy_refl _ _)) _, _, heap_alloc_new X.drew _⟩
/-- the end of an apply that keeps its item -/
theorem keep_end {w w4 W5 w6 : World} {p gs gk gx cx G kn : Nat} {b : Int} {v1 v2 : Value} {K S' : List El} {n0 n1 : Int} {d : List Nat} {n : Nat} {T cw : Array Value} (hpw : w.heap[p]? = some (.cells cw 28 (0, 0)))
    (hK : ElAt w 32 2 gk K) (hne : ∀ j, (∃ x ∈ K, x.o = some j) → j ≠ gs) (hG4 : Only (fun j => j = p) w w4) (hos : W5.os = w4.os) (htp : W5.tape = w4.tape) (hou : W5.output = w4.output) (hsz : W5.heap.size = w4.heap.size) (hoth : ∀ j, j ≠ gs → W5.heap[j]? = w4.heap[j]?)
    (hp5 : W5.heap[p]? = some (.cells #[.int .i64 b, v1, v2] 28 (0, 0))) (hO5 : Own W5 5 gx d) (hS5 : ElAt W5 74 3 gs S') (h6 : W5.grownBy w6 none) (hgx : w.heap.size ≤ gx) (hl : d.length = n)
    (hrow : w6.heap[W5.heap.size + 1]? = some (.cells ((K.flatMap El.cells).toArray ++ #[.int .i64 n0, .int .i64 n1, .slice (some ⟨gx, 0, none⟩) n cx] ++ T) 32 (0, 0))) :
    (w6.setCell ⟨p, 1, none⟩ (.slice (some ⟨W5.heap.size + 1, 0, none⟩) (kn + 1) G)).heap[p]? = some (.cells #[.int .i64 b, .slice (some ⟨W5.heap.size + 1, 0, none⟩) (kn + 1) G, v2] 28 (0, 0)) ∧
    ElAt (w6.setCell ⟨p, 1, none⟩ (.slice (some ⟨W5.heap.size + 1, 0, none⟩) (kn + 1) G)) 32 2 (W5.heap.size + 1) (K ++ [⟨[n0, n1], d, some gx, cx⟩]) ∧
    ElAt (w6.setCell ⟨p, 1, none⟩ (.slice (some ⟨W5.heap.size + 1, 0, none⟩) (kn + 1) G)) 74 3 gs S' ∧ w.heap.size ≤ W5.heap.size + 1 ∧ Only (fun j => j = p ∨ j = gs) w (w6.setCell ⟨p, 1, none⟩ (.slice (some ⟨W5.heap.size + 1, 0, none⟩) (kn + 1) G)) := by
  subst hl
  have hpl : p < W5.heap.size := (Array.getElem?_eq_some_iff.1 hp5).1
  have hp6 := (h6.block p hpl (by simp)).trans hp5
  have h7 : ∀ j, j ≠ p → (w6.setCell ⟨p, 1, none⟩ (.slice (some ⟨W5.heap.size + 1, 0, none⟩) (kn + 1) G)).heap[j]? = w6.heap[j]? := fun j hj => heap_setCell_other _ _ _ _ hj
  have hold : ∀ j, j < w.heap.size → j ≠ p → j ≠ gs → (w6.setCell ⟨p, 1, none⟩ (.slice (some ⟨W5.heap.size + 1, 0, none⟩) (kn + 1) G)).heap[j]? = w.heap[j]? := fun j hj h1 h2 => by
    rw [h7 j h1, h6.block j (by rw [hsz]; exact Nat.lt_of_lt_of_le hj hG4.size) (by simp), hoth j h2, hG4.block j hj h1]
  have hgp : gx ≠ p := fun e => by subst e; exact absurd (own_type hO5 hp5) (by decide)
  refine ⟨?_, el_behind hK (fun j hj hx => hold j hj ?_ (hne j hx)) ((h7 _ (by omega)).trans hrow) hgx ((hO5.grown h6 (by simp)).of_block (h7 gx hgp)), hS5.kept (fun j hj hjk => ?_), ?_, ?_⟩
  · rw [heap_setCell_same w6 p 1 _ _ _ hp6]
    rfl
  · rintro rfl
    obtain ⟨x, hx, ho⟩ := hx
    obtain ⟨i, hi⟩ := List.getElem?_of_mem hx
    exact absurd (own_type (ownS_blk (hK.own i x hi).2.1 ho) hpw) (by decide)
  · have hjp : j ≠ p := by
      rintro rfl
      rcases hjk with rfl | ⟨x, hx, ho⟩
      · obtain ⟨cur, h1, -⟩ := hS5.row
        rw [hp5] at h1
        simp at h1
      · obtain ⟨i, hi⟩ := List.getElem?_of_mem hx
        exact absurd (own_type (ownS_blk (hS5.own i x hi).2.1 ho) hp5) (by decide)
    exact (h7 j hjp).trans (h6.block j hj (by simp))
  · have := hG4.size; omega
  · refine ⟨?_, ?_, ?_, ?_, fun j hj hn => hold j hj (fun e => hn (.inl e)) (fun e => hn (.inr e))⟩
    · show w6.os = _; rw [h6.os, hos, hG4.os]
    · show w6.tape = _; rw [h6.tape, htp, hG4.tape]
    · show w6.output = _; rw [h6.output, hou, hG4.output]
    · have h1 := hG4.size
      have h2 := h6.size
      simp
      omega
/-- what an apply that keeps its item leaves -/
def KeepOut (w w' : World) (p : Nat) (b : Int) (kn : Nat) (K : List El) (n0 n1 : Int) (d : List Nat) (SN : El → List El) (T : Nat → Prop) : Prop :=
  ∃ gk kc gx cx gd cd gs sc : Nat, w'.heap[p]? = some (.cells #[.int .i64 b, .slice (some ⟨gk, 0, none⟩) (kn + 1) kc, .slice (some ⟨gs, 0, none⟩) (SN ⟨[n0, n1, b + (kn : Int)], d, some gd, cd⟩).length sc] 28 (0, 0)) ∧ kn + 1 ≤ kc ∧
    ElAt w' 32 2 gk (K ++ [⟨[n0, n1], d, some gx, cx⟩]) ∧ ElAt w' 74 3 gs (SN ⟨[n0, n1, b + (kn : Int)], d, some gd, cd⟩) ∧ w.heap.size ≤ gk ∧ w.heap.size ≤ gx ∧ w.heap.size ≤ gd ∧ gx ≠ gd ∧ (T gs ∨ w.heap.size ≤ gs) ∧ Only (fun j => j = p ∨ T j) w w'
end Go.Proofs.YtdajcpcajdhplaaDoor

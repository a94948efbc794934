/-
  A session put into a row, an item behind a row: what lies there then.
-/
import Derived.Test.YtdajcpcajdhplaaDoorAp2
import Derived.Test.YtdajcpcajdhplaaDoorInsert
namespace Go.Proofs.YtdajcpcajdhplaaDoor
open Go.RowKit

theorem cell_set_ne (w : World) (a o c q : Nat) (v : Value) (h : c ≠ a) : (w.setCell ⟨a, o, none⟩ v).cell? ⟨c, q, none⟩ = w.cell? ⟨c, q, none⟩ := by
  simp only [World.cell?]
  rw [heap_setCell_other _ _ _ _ h]
/-- the world with a session laid at k -/
def put4 (w : World) (g k : Nat) (a b c d : Value) : World := (((w.setCell ⟨g, k * 4, none⟩ a).setCell ⟨g, k * 4 + 1, none⟩ b).setCell ⟨g, k * 4 + 2, none⟩ c).setCell ⟨g, k * 4 + 3, none⟩ d
theorem put4_other (w : World) (g k j : Nat) (a b c d : Value) (h : j ≠ g) : (put4 w g k a b c d).heap[j]? = w.heap[j]? := by
  unfold put4
  rw [heap_setCell_other _ _ _ _ h, heap_setCell_other _ _ _ _ h, heap_setCell_other _ _ _ _ h, heap_setCell_other _ _ _ _ h]
theorem put4_same (w : World) (g k : Nat) (a b c d : Value) (cur : Array Value) (t : TypeId) (h : w.heap[g]? = some (.cells cur t (0, 0))) (hs : k * 4 + 4 ≤ cur.size) :
    ∃ cur' : Array Value, (put4 w g k a b c d).heap[g]? = some (.cells cur' t (0, 0)) ∧ cur'[k * 4]? = some a ∧ cur'[k * 4 + 1]? = some b ∧ cur'[k * 4 + 2]? = some c ∧ cur'[k * 4 + 3]? = some d ∧ ∀ j, (j < k * 4 ∨ k * 4 + 4 ≤ j) → cur'[j]? = cur[j]? := by
  have h1 := heap_setCell_same w g (k * 4) cur t a h
  have h2 := heap_setCell_same _ g (k * 4 + 1) _ t b h1
  have h3 := heap_setCell_same _ g (k * 4 + 2) _ t c h2
  have h4 := heap_setCell_same _ g (k * 4 + 3) _ t d h3
  refine ⟨_, h4, ?_, ?_, ?_, ?_, fun j hj => ?_⟩
  all_goals simp only [Array.getElem?_setIfInBounds, Array.size_setIfInBounds]
  · simp; omega
  · simp; omega
  · simp; omega
  · simp; omega
  · rw [if_neg (by omega), if_neg (by omega), if_neg (by omega), if_neg (by omega)]
/-- .. as elements -/
theorem el_put4 {w : World} {g k : Nat} {cur : Array Value} {L : List El} {x : El} {n0 n1 n2 : Int} (hg : w.heap[g]? = some (.cells cur 74 (0, 0))) (hs : k * 4 + 4 ≤ cur.size)
    (hrest : ∀ (i : Nat) (y : El), L[i]? = some y → i ≠ k → y.hd.length = 3 ∧ (∀ (j : Nat) (n : Int), y.hd[j]? = some n → cur[i * 4 + j]? = some (.int .i64 n)) ∧ cur[i * 4 + 3]? = some (.slice (oad y.o) y.d.length y.cp))
    (hk : L[k]? = some x) (hx : x.hd = [n0, n1, n2])
    (hown : ∀ (i : Nat) (y : El), L[i]? = some y → OwnS (put4 w g k (.int .i64 n0) (.int .i64 n1) (.int .i64 n2) (.slice (oad x.o) x.d.length x.cp)) 5 (oad y.o) y.d.length y.d ∧ (y.o = none → y.cp = 0))
    (hfar : ∀ (i j : Nat) (x y : El) (k : Nat), L[i]? = some x → L[j]? = some y → x.o = some k → y.o = some k → i = j) :
    ElAt (put4 w g k (.int .i64 n0) (.int .i64 n1) (.int .i64 n2) (.slice (oad x.o) x.d.length x.cp)) 74 3 g L := by
  obtain ⟨cur', h1, a0, a1, a2, a3, ao⟩ := put4_same w g k (.int .i64 n0) (.int .i64 n1) (.int .i64 n2) (.slice (oad x.o) x.d.length x.cp) cur _ hg hs
  refine ⟨⟨cur', h1, fun i y hy => ?_⟩, fun i y hy => ⟨?_, hown i y hy⟩, hfar⟩
  · by_cases hik : i = k
    · subst hik
      rw [hk] at hy
      obtain rfl := Option.some.inj hy
      refine ⟨fun j n hj => ?_, a3⟩
      rw [hx] at hj
      match j, hj with
      | 0, hj => simp at hj; subst hj; exact a0
      | 1, hj => simp at hj; subst hj; exact a1
      | 2, hj => simp at hj; subst hj; exact a2
      | j + 3, hj => simp at hj
    · obtain ⟨hl, h2, h3⟩ := hrest i y hy hik
      refine ⟨fun j n hj => ?_, ?_⟩
      · have hj3 : j < 3 := by have := (List.getElem?_eq_some_iff.1 hj).1; omega
        exact (ao _ (by omega)).trans (h2 j n hj)
      · exact (ao _ (by omega)).trans h3
  · by_cases hik : i = k
    · subst hik
      rw [hk] at hy
      obtain rfl := Option.some.inj hy
      rw [hx]; rfl
    · exact (hrest i y hy hik).1
/-- one operation 'append' of a region that draws, where its run is known -/
theorem step_append_ex {P : Program} {ops : Array Oper} {o : Oper} {a : Act} {w : World} {K : Act → World → Prop} {Q : Exit → Act → World → Prop} {E : Prop} {R : Nat → World → Prop} {ad : Addr} {n : Nat}
    (hg : o.guard = none) (s x : Operand) (t : TypeId) (hop : o.op = Op.call { callee := Callee.builtin Builtin.append, args := #[s, x], argTypes := #[t, t] })
    (vs vx : Value) (hs : a.eval s = vs) (hx : a.eval x = vx) (hr : ∀ ty, ∃ (G : Nat) (w' : World), (Builtin.append_ #[t, t] ty #[vs, vx]).run P w = .ok (.slice (some ad) n G) w' ∧ R G w') (hK : ∀ (G : Nat) (w' : World), R G w' → K (a.put o.dst (.slice (some ad) n G)) w') :
    if Region.wanted o (yielded ops a.tmps) = true then Oper.wp P o a w K Q else E := by
  have hw : Region.wanted o (yielded ops a.tmps) = true := by simp [Region.wanted, hg]
  rw [if_pos hw]
  obtain ⟨G, w', h1, h2⟩ := hr o.type
  unfold Oper.wp
  simp [execOp, hop, resolve, invoke, builtin, hs, hx, h1, Result.andThen]
  exact hK G w' h2
/-- the cells of a row of elements -/
theorem el_cells_len {x : El} {m : Nat} (h : x.hd.length = m) : x.cells.length = m + 1 := by simp [El.cells, h]
theorem elflat_len (m : Nat) (L : List El) (h : ∀ x ∈ L, x.hd.length = m) : (L.flatMap El.cells).length = L.length * (m + 1) := by
  induction L with
  | nil => simp
  | cons x L ih =>
    have h1 := ih (fun y hy => h y (List.mem_cons_of_mem _ hy))
    have h2 := el_cells_len (h x (by simp))
    rw [List.flatMap_cons, List.length_append, h1, h2, List.length_cons, Nat.add_mul]
    omega
theorem elflat_get (m : Nat) (L : List El) (h : ∀ x ∈ L, x.hd.length = m) : ∀ (i : Nat) (x : El) (j : Nat), L[i]? = some x → j < m + 1 → (L.flatMap El.cells)[i * (m + 1) + j]? = x.cells[j]? := by
  induction L with
  | nil => intro i x j hx; simp at hx
  | cons y L ih =>
    intro i x j hx hj
    have h2 := el_cells_len (h y (by simp))
    rw [List.flatMap_cons]
    cases i with
    | zero =>
      simp at hx; subst hx
      rw [List.getElem?_append_left (by omega)]
      simp
    | succ i =>
      rw [List.getElem?_append_right (by rw [h2, Nat.add_mul]; omega), h2, show (i + 1) * (m + 1) + j - (m + 1) = i * (m + 1) + j by rw [Nat.add_mul]; omega]
      exact ih (fun y hy => h y (List.mem_cons_of_mem _ hy)) i x j (by simpa using hx) hj
theorem ElAt.hds {w : World} {t : TypeId} {m g : Nat} {L : List El} (h : ElAt w t m g L) : ∀ x ∈ L, x.hd.length = m := fun x hx => by
  obtain ⟨i, hi⟩ := List.getElem?_of_mem hx
  exact (h.own i x hi).1
theorem ElAt.flat {w : World} {t : TypeId} {m g : Nat} {L : List El} (h : ElAt w t m g L) : ∀ j v, (L.flatMap El.cells)[j]? = some v → w.cell? ⟨g, j, none⟩ = some v := by
  intro j v hv
  have hl := elflat_len m L h.hds
  have hj := (List.getElem?_eq_some_iff.1 hv).1
  rw [hl] at hj
  have hm : 0 < m + 1 := by omega
  have hi : j / (m + 1) < L.length := by rw [Nat.div_lt_iff_lt_mul hm]; exact hj
  have hr : j % (m + 1) < m + 1 := Nat.mod_lt _ hm
  have he : j / (m + 1) * (m + 1) + j % (m + 1) = j := by rw [Nat.mul_comm]; exact Nat.div_add_mod _ _
  have hx := List.getElem?_eq_getElem hi
  have h1 := elflat_get m L h.hds _ _ _ hx hr
  rw [he, hv] at h1
  have hd := (h.own _ _ hx).1
  generalize j / (m + 1) = i at *
  generalize j % (m + 1) = r at *
  subst he
  by_cases hrm : r < m
  · rw [El.cells, List.getElem?_append_left (by simp; omega), List.getElem?_map] at h1
    obtain ⟨n, hn⟩ : ∃ n, (L[i].hd)[r]? = some n := ⟨(L[i].hd)[r]'(by omega), List.getElem?_eq_getElem (by omega)⟩
    rw [hn] at h1
    simp at h1
    rw [h1]
    exact h.cell hx hn
  · obtain rfl : r = m := by omega
    rw [El.cells, List.getElem?_append_right (by simp; omega)] at h1
    simp [hd] at h1
    rw [h1]
    exact h.slice hx
theorem elflat_one (L : List El) : ∀ v ∈ L.flatMap El.cells, v.oneCell' = true := by
  intro v hv
  obtain ⟨x, -, hx⟩ := List.mem_flatMap.1 hv
  rcases List.mem_append.1 hx with h | h
  · obtain ⟨n, -, rfl⟩ := List.mem_map.1 h
    rfl
  · obtain rfl : v = _ := by simpa using h
    rfl
/-- a row that begins with elements' cells -/
theorem el_of_flat {w : World} {t : TypeId} {m g : Nat} {L : List El} {cur : Array Value} (hg : w.heap[g]? = some (.cells cur t (0, 0))) (hc : ∀ j, j < L.length * (m + 1) → cur[j]? = (L.flatMap El.cells)[j]?)
    (hown : ∀ (i : Nat) (x : El), L[i]? = some x → x.hd.length = m ∧ OwnS w 5 (oad x.o) x.d.length x.d ∧ (x.o = none → x.cp = 0))
    (hfar : ∀ (i j : Nat) (x y : El) (k : Nat), L[i]? = some x → L[j]? = some y → x.o = some k → y.o = some k → i = j) : ElAt w t m g L := by
  have hds : ∀ x ∈ L, x.hd.length = m := fun x hx => by
    obtain ⟨i, hi⟩ := List.getElem?_of_mem hx
    exact (hown i x hi).1
  refine ⟨⟨cur, hg, fun i x hx => ?_⟩, hown, hfar⟩
  have hi : i < L.length := (List.getElem?_eq_some_iff.1 hx).1
  have hle : (i + 1) * (m + 1) ≤ L.length * (m + 1) := Nat.mul_le_mul_right _ hi
  rw [Nat.add_mul] at hle
  have hd := (hown i x hx).1
  refine ⟨fun j n hj => ?_, ?_⟩
  · have hj' := (List.getElem?_eq_some_iff.1 hj).1
    rw [hc _ (by omega), elflat_get m L hds i x j hx (by omega), El.cells, List.getElem?_append_left (by simp; omega), List.getElem?_map, hj]
    rfl
  · rw [hc _ (by omega), elflat_get m L hds i x m hx (by omega), El.cells, List.getElem?_append_right (by simp; omega)]
    simp [hd]
end Go.Proofs.YtdajcpcajdhplaaDoor

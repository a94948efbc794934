/-
  A session put between sessions, in a new row: what lies there then.
-/
import Derived.Test.YtdajcpcajdhplaaDoorElPut2
namespace Go.Proofs.YtdajcpcajdhplaaDoor
open Go.RowKit

theorem insE_get {S : List El} {k : Nat} {z : El} (hk : k ≤ S.length) {i : Nat} {y : El} (h : (S.take k ++ z :: S.drop k)[i]? = some y) : (i < k ∧ S[i]? = some y) ∨ (i = k ∧ y = z) ∨ (k < i ∧ S[i - 1]? = some y) := by
  have hl : (S.take k).length = k := by simp; omega
  rcases Nat.lt_trichotomy i k with hi | hi | hi
  · rw [List.getElem?_append_left (by omega), List.getElem?_take, if_pos hi] at h
    exact .inl ⟨hi, h⟩
  · rw [List.getElem?_append_right (by omega), hl, hi] at h
    simp at h
    exact .inr (.inl ⟨hi, h.symm⟩)
  · rw [List.getElem?_append_right (by omega), hl, show i - k = (i - k - 1) + 1 by omega, List.getElem?_cons_succ, List.getElem?_drop, show k + (i - k - 1) = i - 1 by omega] at h
    exact .inr (.inr ⟨hi, h⟩)
theorem insE_at {S : List El} {k : Nat} {z : El} (hk : k ≤ S.length) : (S.take k ++ z :: S.drop k)[k]? = some z := by
  have hl : (S.take k).length = k := by simp; omega
  rw [List.getElem?_append_right (by omega), hl]
  simp
theorem el_insert {w w4 : World} {g k gd cd gs : Nat} {S : List El} {cur : Array Value} {n0 n1 n2 : Int} {d : List Nat} (hS : ElAt w 74 3 gs S) (hk : k ≤ S.length) (hg : w4.heap[g]? = some (.cells cur 74 (0, 0))) (hgl : w.heap.size ≤ g)
    (hcur : ∀ j, j < S.length * 4 + 4 → cur[j]? = ((S.flatMap El.cells).take (k * 4) ++ sesZ ++ (S.flatMap El.cells).drop (k * 4))[j]?) (hkeep : ∀ j, j < w.heap.size → (∃ x ∈ S, x.o = some j) → w4.heap[j]? = w.heap[j]?)
    (hgd : w.heap.size ≤ gd) (hgdg : gd ≠ g) (hO : Own w4 5 gd d) :
    ElAt (put4 w4 g k (.int .i64 n0) (.int .i64 n1) (.int .i64 n2) (.slice (some ⟨gd, 0, none⟩) d.length cd)) 74 3 g (S.take k ++ ⟨[n0, n1, n2], d, some gd, cd⟩ :: S.drop k) := by
  have hfl := elflat_len 3 S hS.hds
  simp only [Nat.reduceAdd] at hfl
  have htl : ((S.flatMap El.cells).take (k * 4)).length = k * 4 := by rw [List.length_take, hfl]; omega
  have hsz : k * 4 + 3 < cur.size := by
    have h := hcur (k * 4 + 3) (by omega)
    rw [List.append_assoc, List.getElem?_append_right (by omega), htl, show k * 4 + 3 - k * 4 = 3 by omega] at h
    rcases Nat.lt_or_ge (k * 4 + 3) cur.size with h' | h'
    · exact h'
    · rw [Array.getElem?_eq_none h'] at h
      simp [sesZ] at h
  have hlow : ∀ (i j : Nat) (y : El), i < k → j < 4 → S[i]? = some y → cur[i * 4 + j]? = y.cells[j]? := fun i j y hi hj hy => by
    rw [hcur _ (by omega), List.append_assoc, List.getElem?_append_left (by omega), List.getElem?_take, if_pos (by omega)]
    exact elflat_get 3 S hS.hds i y j hy hj
  have hhigh : ∀ (i j : Nat) (y : El), k < i → j < 4 → S[i - 1]? = some y → cur[i * 4 + j]? = y.cells[j]? := fun i j y hi hj hy => by
    have hil := (List.getElem?_eq_some_iff.1 hy).1
    rw [hcur _ (by omega), List.getElem?_append_right (by simp [sesZ]; omega), List.getElem?_drop]
    rw [show k * 4 + (i * 4 + j - ((S.flatMap El.cells).take (k * 4) ++ sesZ).length) = (i - 1) * 4 + j by rw [List.length_append, htl]; simp [sesZ]; omega]
    exact elflat_get 3 S hS.hds (i - 1) y j hy hj
  have hcells : ∀ (y : El) (i : Nat), y.hd.length = 3 → (∀ j, j < 4 → cur[i * 4 + j]? = y.cells[j]?) → (∀ (j : Nat) (n : Int), y.hd[j]? = some n → cur[i * 4 + j]? = some (.int .i64 n)) ∧ cur[i * 4 + 3]? = some (.slice (oad y.o) y.d.length y.cp) := fun y i hl h => by
    refine ⟨fun j n hj => ?_, ?_⟩
    · have hj' := (List.getElem?_eq_some_iff.1 hj).1
      rw [h j (by omega), El.cells, List.getElem?_append_left (by simp; omega), List.getElem?_map, hj]
      rfl
    · rw [h 3 (by omega), El.cells, List.getElem?_append_right (by simp; omega)]
      simp [hl]
  refine el_put4 (x := ⟨[n0, n1, n2], d, some gd, cd⟩) hg (by omega) (fun i y hy hik => ?_) (insE_at hk) rfl (fun i y hy => ?_) (fun i j y z b hy hz hyo hzo => ?_)
  · rcases insE_get hk hy with ⟨hi, hy'⟩ | ⟨h, _⟩ | ⟨hi, hy'⟩
    · exact ⟨(hS.own i y hy').1, hcells y i (hS.own i y hy').1 (fun j hj => hlow i j y hi hj hy')⟩
    · exact absurd h hik
    · exact ⟨(hS.own _ y hy').1, hcells y i (hS.own _ y hy').1 (fun j hj => hhigh i j y hi hj hy')⟩
  · have hold : ∀ i', S[i']? = some y → OwnS (put4 w4 g k (.int .i64 n0) (.int .i64 n1) (.int .i64 n2) (.slice (some ⟨gd, 0, none⟩) d.length cd)) 5 (oad y.o) y.d.length y.d ∧ (y.o = none → y.cp = 0) := fun i' hy' => by
      refine ⟨ownS_kept (hS.own i' y hy').2.1 (fun g' hg' hgw => ?_), (hS.own i' y hy').2.2⟩
      rw [put4_other _ _ _ _ _ _ _ _ (by omega)]
      exact hkeep g' hgw ⟨y, List.mem_of_getElem? hy', hg'⟩
    rcases insE_get hk hy with ⟨hi, hy'⟩ | ⟨_, rfl⟩ | ⟨hi, hy'⟩
    · exact hold i hy'
    · exact ⟨(hO.of_block (put4_other _ _ _ _ _ _ _ _ hgdg)).s rfl, fun h => by cases h⟩
    · exact hold _ hy'
  · have hnew : ∀ {i' : Nat} {y' : El}, S[i']? = some y' → y'.o = some b → gd ≠ b := fun {i' y'} h ho => by
      have := hS.blt h ho
      omega
    rcases insE_get hk hy with ⟨hi, hy'⟩ | ⟨hi, rfl⟩ | ⟨hi, hy'⟩ <;> rcases insE_get hk hz with ⟨hj, hz'⟩ | ⟨hj, rfl⟩ | ⟨hj, hz'⟩
    · exact hS.far i j y z b hy' hz' hyo hzo
    · exact absurd (by simpa using hzo) (hnew hy' hyo)
    · have := hS.far _ _ y z b hy' hz' hyo hzo; omega
    · exact absurd (by simpa using hyo) (hnew hz' hzo)
    · omega
    · exact absurd (by simpa using hyo) (hnew hz' hzo)
    · have := hS.far _ _ y z b hy' hz' hyo hzo; omega
    · exact absurd (by simpa using hzo) (hnew hy' hyo)
    · have := hS.far _ _ y z b hy' hz' hyo hzo; omega
/-- slices.Insert, wherever -/
theorem insert_any (g n i vb vc : Nat) (cs : List Value) (w : World) (hi : i ≤ n) (hn : n ≤ 1048576) (hcl : cs.length = n * 4) (hgw : g < w.heap.size) (hvw : vb < w.heap.size) (h1c : ∀ v ∈ cs, v.oneCell' = true)
    (hcs : ∀ j v, cs[j]? = some v → w.cell? ⟨g, j, none⟩ = some v) (hvs : ∀ j v, sesZ[j]? = some v → w.cell? ⟨vb, j, none⟩ = some v) :
    Calls Tryd.prog 62 #[.slice (some ⟨g, 0, none⟩) n n, .int .i64 (i : Int), .slice (some ⟨vb, 0, none⟩) 1 vc] w fun e w' => ∃ (G : Nat) (cur : Array Value), e = .returned (.slice (some ⟨w.heap.size, 0, none⟩) (n + 1) G) ∧ n + 1 ≤ G ∧ w'.heap[w.heap.size]? = some (.cells cur 74 (0, 0)) ∧ (∀ j, j < n * 4 + 4 → cur[j]? = (cs.take (i * 4) ++ sesZ ++ cs.drop (i * 4))[j]?) ∧ w.grownBy w' none := by
  rcases Nat.lt_or_ge i n with h | h
  · exact insert_in g n i vb vc cs w h hn hcl hgw hvw h1c hcs hvs
  · obtain rfl : i = n := by omega
    exact insert_end g i vb vc cs w hn hcl hcs hvs
end Go.Proofs.YtdajcpcajdhplaaDoor

/-
  slices.Insert of one empty session into a slice that has no room: a new row.
-/
import Derived.Test.YtdajcpcajdhplaaDoorSearch
import Derived.Test.YtdajcpcajdhplaaDoorArLawS
import Derived.Shelf.Spec.SlicesInsert
import Derived.Lib.AppendZerosOnto
import Derived.Laws.CopyRow
namespace Go.Proofs.YtdajcpcajdhplaaDoor
open Go.RowKit

/-- copy of elements of K cells into a row -/
theorem run_copy_rows {P : Program} (w : World) (dT sT ty elem : TypeId) (K g o dLen dCap : Nat) (a : Addr) (sLen sCap : Nat) (cur : Array Value) (t : TypeId) (cs : List Value)
    (hu : P.underlying dT = some (.slice elem)) (hs : (P.info? elem).map (·.size) = some K)
    (hg : w.heap[g]? = some (.cells cur t (0, 0))) (m : Nat) (hm : Nat.min sLen dLen = m) (hn : cs.length = m * K)
    (hsrc : ∀ j v, cs[j]? = some v → w.cell? (a.add j) = some v) (hfit : o + cs.length ≤ cur.size) (h1 : ∀ v ∈ cs, v.oneCell' = true) :
    (Builtin.copy_ #[dT, sT] ty #[.slice (some ⟨g, o, none⟩) dLen dCap, .slice (some a) sLen sCap]).run P w =
      .ok (goInt m) (w.setRow g (cur.toList.take o ++ cs ++ cur.toList.drop (o + cs.length)).toArray) := by
  have hl := run_loadCells_list (P := P) w a cs hsrc
  have hst := run_storeCells_at P g o t cs 0 cur w hg (by simpa using hfit) h1
  cases hq : P.info? elem with
  | none => simp [hq] at hs
  | some i =>
    have hi : i.size = K := by simpa [hq] using hs
    simp [Builtin.copy_, run_underlying hu, Builtin.lenOf, Builtin.firstCells, sizeOf, typeInfo, hq, hi, hm, ← hn, hl, hst]
/-- an empty session's cells -/
def sesZ : List Value := [.int .i64 0, .int .i64 0, .int .i64 0, .slice none 0 0]
/-- three rows in a row, read -/
theorem ins_get (cs : List Value) (n i : Nat) (hcl : cs.length = n * 4) (hi : i ≤ n) (tail : List Value) (j : Nat) (hj : j < n * 4 + 4) : ((cs.take (i * 4) ++ sesZ ++ cs.drop (i * 4)) ++ tail)[j]? = (cs.take (i * 4) ++ sesZ ++ cs.drop (i * 4))[j]? := by
  rw [List.getElem?_append_left]
  simp [sesZ, hcl]
  omega
set_option maxRecDepth 100000 in
set_option maxHeartbeats 4000000 in
theorem insert_end (g n vb vc : Nat) (cs : List Value) (w : World) (hn : n ≤ 1048576) (hcl : cs.length = n * 4)
    (hcs : ∀ j v, cs[j]? = some v → w.cell? ⟨g, j, none⟩ = some v) (hvs : ∀ j v, sesZ[j]? = some v → w.cell? ⟨vb, j, none⟩ = some v) :
    Calls Tryd.prog 62 #[.slice (some ⟨g, 0, none⟩) n n, .int .i64 (n : Int), .slice (some ⟨vb, 0, none⟩) 1 vc] w fun e w' => ∃ (G : Nat) (cur : Array Value), e = .returned (.slice (some ⟨w.heap.size, 0, none⟩) (n + 1) G) ∧ n + 1 ≤ G ∧ w'.heap[w.heap.size]? = some (.cells cur 74 (0, 0)) ∧ (∀ j, j < n * 4 + 4 → cur[j]? = (cs.take (n * 4) ++ sesZ ++ cs.drop (n * 4))[j]?) ∧ w.grownBy w' none := by
  obtain ⟨i0, hi0, hz0, hzs, hzb⟩ := info_parts Tryd.infoSession
  have hrz : ∀ ty, (Builtin.append_ #[26, 26] ty #[.slice (some ⟨g, 0, none⟩) n n, .slice (some ⟨vb, 0, none⟩) 1 vc]).run Tryd.prog w = _ := fun ty =>
    run_append_grow (w := w) 26 ty 74 i0 _ (by kernel_rfl) hi0 hz0 ⟨g, 0, none⟩ n n cs (by rw [hzs, hcl]) (fun j v h => by rw [Addr.add_lit]; simpa using hcs j v h) ⟨vb, 0, none⟩ 1 vc sesZ (by rw [hzs]; rfl) (fun j v h => by rw [Addr.add_lit]; simpa using hvs j v h) (by omega) (by omega) (by rw [hzb]; exact growslice_fits (by omega) (by omega))
  obtain ⟨G, hG⟩ : ∃ G, G = grownCap w (n + 1) n 74 := ⟨_, rfl⟩
  rw [← hG] at hrz
  have hGn : n + 1 ≤ G := by rw [hG]; exact grownCap_ge w _ _ _
  clear hG
  obtain ⟨T, hT⟩ : ∃ T : Array Value, T = Builtin.zeroCells (Value.agg #[.int .i64 0, .int .i64 0, .int .i64 0, .slice none 0 0]).cells (G - (n + 1)) := ⟨_, rfl⟩
  rw [← hT] at hrz
  clear hT
  obtain ⟨W1, hW1⟩ : ∃ W1, W1 = w.drew.alloc (.cells (cs.toArray ++ sesZ.toArray ++ T) 74) := ⟨_, rfl⟩
  rw [← hW1] at hrz
  have HR : Hid (W1.heap[w.heap.size]? = some (.cells (cs.toArray ++ sesZ.toArray ++ T) 74 (0, 0)) ∧ w.grownBy W1 none) := by
    rw [hW1]
    exact ⟨heap_alloc_new w.drew _, grownBy_alloc (grownBy_drew (grownBy_refl _ _)) _⟩
  have HCL : Hid (cs.length = n * 4) := hcl
  clear hW1 hcs hvs hcl
  go_enter Tryd.func62, Tryd.ntmps62
  go_wp2_with (at_builtin; refine Lib.wpList_append_run _ rfl _ _ _ _ rfl _ _ rfl rfl _ _ (hrz _) ?_)
  go_ret
  refine ⟨G, _, rfl, hGn, HR.out.1, fun j hj => ?_, HR.out.2⟩
  have h1 := ins_get cs n n HCL.out (Nat.le_refl _) T.toList j hj
  have h2 := HCL.out
  rw [← h1, List.take_of_length_le (by omega), List.drop_of_length_le (by omega), ← Array.getElem?_toList]
  simp
set_option maxRecDepth 100000 in
set_option maxHeartbeats 4000000 in
theorem insert_in (g n i vb vc : Nat) (cs : List Value) (w : World) (hi : i < n) (hn : n ≤ 1048576) (hcl : cs.length = n * 4) (hgw : g < w.heap.size) (hvw : vb < w.heap.size) (h1c : ∀ v ∈ cs, v.oneCell' = true)
    (hcs : ∀ j v, cs[j]? = some v → w.cell? ⟨g, j, none⟩ = some v) (hvs : ∀ j v, sesZ[j]? = some v → w.cell? ⟨vb, j, none⟩ = some v) :
    Calls Tryd.prog 62 #[.slice (some ⟨g, 0, none⟩) n n, .int .i64 (i : Int), .slice (some ⟨vb, 0, none⟩) 1 vc] w fun e w' => ∃ (G : Nat) (cur : Array Value), e = .returned (.slice (some ⟨w.heap.size, 0, none⟩) (n + 1) G) ∧ n + 1 ≤ G ∧ w'.heap[w.heap.size]? = some (.cells cur 74 (0, 0)) ∧ (∀ j, j < n * 4 + 4 → cur[j]? = (cs.take (i * 4) ++ sesZ ++ cs.drop (i * 4))[j]?) ∧ w.grownBy w' none := by
  obtain ⟨i0, hi0, hz0, hzs, hzb⟩ := info_parts Tryd.infoSession
  have hsz : (Tryd.prog.info? 74).map (·.size) = some 4 := by rw [hi0]; simp [hzs]
  have hkk : (n : Int) + 1 - (i : Int) = ((n + 1 - i : Nat) : Int) := by omega
  have hik : i + (n + 1 - i) = n + 1 := by omega
  have hu : Tryd.prog.underlying 26 = some (.slice 74) := by kernel_rfl
  have hold : (Builtin.firstCells i0.size i (.slice (some ⟨g, 0, none⟩) i n)).run Tryd.prog w.drew = .ok (cs.take (i * 4)).toArray w.drew := by
    rw [hzs]
    exact run_firstCells_some w.drew 4 i ⟨g, 0, none⟩ i n (cs.take (i * 4)) (by rw [List.length_take]; omega) (fun j v hj => by
      rw [Addr.add_lit]
      rw [List.getElem?_take] at hj
      split at hj
      · simpa using hcs j v hj
      · cases hj)
  have hrz : ∀ ty, (Builtin.append_ #[26, 3] ty #[.slice (some ⟨g, 0, none⟩) i n, .int .i64 ((n : Int) + 1 - (i : Int))]).run Tryd.prog w =
      .ok (.slice (some ⟨w.heap.size, 0, none⟩) (n + 1) (grownCap w (n + 1) n 74)) (w.drew.alloc (.cells ((cs.take (i * 4)).toArray ++ Builtin.zeroCells (Value.agg #[.int .i64 0, .int .i64 0, .int .i64 0, .slice none 0 0]).cells (n + 1 - i) ++ Builtin.zeroCells (Value.agg #[.int .i64 0, .int .i64 0, .int .i64 0, .slice none 0 0]).cells (grownCap w (n + 1) n 74 - (n + 1))) 74)) := fun ty => by
    have h := Lib.run_append_grow_zeros w 26 3 ty 74 i0 _ .i64 .i64 hu (by kernel_rfl) hi0 hz0 (some ⟨g, 0, none⟩) i n (cs.take (i * 4)) hold (n + 1 - i) (by omega) (by omega) (by omega) (by omega) (by rw [hzb]; omega) (by rw [hzb, hik]; exact growslice_fits (by omega) (by omega))
    rw [hik] at h
    rw [hkk]
    exact h
  obtain ⟨G, hG⟩ : ∃ G, G = grownCap w (n + 1) n 74 := ⟨_, rfl⟩
  rw [← hG] at hrz
  have hGn : n + 1 ≤ G := by rw [hG]; exact grownCap_ge w _ _ _
  have hG63 : G ≤ 9223372036854775807 := by
    have := grownCap_le_maxLen w (n + 1) n 74 (by unfold maxLen; omega)
    rw [← hG] at this
    unfold maxLen at this
    omega
  clear hG
  obtain ⟨ROW, hROW⟩ : ∃ ROW : Array Value, ROW = (cs.take (i * 4)).toArray ++ Builtin.zeroCells (Value.agg #[.int .i64 0, .int .i64 0, .int .i64 0, .slice none 0 0]).cells (n + 1 - i) ++ Builtin.zeroCells (Value.agg #[.int .i64 0, .int .i64 0, .int .i64 0, .slice none 0 0]).cells (G - (n + 1)) := ⟨_, rfl⟩
  rw [← hROW] at hrz
  have hzl : ∀ k, (Builtin.zeroCells (Value.agg #[.int .i64 0, .int .i64 0, .int .i64 0, .slice none 0 0]).cells k).size = k * 4 := fun k => by simp [Builtin.zeroCells, Value.cells]
  have hRl : n * 4 + 4 ≤ ROW.size := by
    rw [hROW]
    simp only [Array.size_append, List.size_toArray, List.length_take, hzl]
    omega
  have hRt : ROW.toList.take (i * 4) = cs.take (i * 4) := by
    rw [hROW]
    simp only [Array.toList_append, List.append_assoc]
    rw [List.take_append_of_le_length (by simp; omega), List.take_of_length_le (by simp; omega)]
  clear hROW hzl
  obtain ⟨R1, hR1⟩ : ∃ R1 : Array Value, R1 = (ROW.toList.take (i * 4) ++ sesZ ++ ROW.toList.drop (i * 4 + sesZ.length)).toArray := ⟨_, rfl⟩
  have hR1l : R1.size = ROW.size := by rw [hR1]; simp [sesZ]; omega
  obtain ⟨R2, hR2⟩ : ∃ R2 : Array Value, R2 = (R1.toList.take (i * 4 + 4) ++ cs.drop (i * 4) ++ R1.toList.drop (i * 4 + 4 + (cs.drop (i * 4)).length)).toArray := ⟨_, rfl⟩
  have HROW : Hid (∀ j, j < n * 4 + 4 → R2[j]? = (cs.take (i * 4) ++ sesZ ++ cs.drop (i * 4))[j]?) := fun j hj => by
    have h1 : R1.toList.take (i * 4 + 4) = cs.take (i * 4) ++ sesZ := by
      rw [hR1]
      simp only []
      rw [hRt, List.take_append_of_le_length (by simp [sesZ]; omega), List.take_of_length_le (by simp [sesZ]; omega)]
    rw [hR2, List.getElem?_toArray, h1]
    exact ins_get cs n i hcl (by omega) _ j hj
  obtain ⟨W1, hW1⟩ : ∃ W1, W1 = w.drew.alloc (.cells ROW 74) := ⟨_, rfl⟩
  have hB1 : W1.heap[w.heap.size]? = some (.cells ROW 74 (0, 0)) := by rw [hW1]; exact heap_alloc_new w.drew _
  have hOl : ∀ k j, k < w.heap.size → W1.cell? ⟨k, j, none⟩ = w.cell? ⟨k, j, none⟩ := fun k j hk => by rw [hW1, World.cell?_alloc_past (w := w.drew) _ k j hk]; rfl
  have hcpA : ∀ (W : World), W.heap = W1.heap → ∀ ty dc, (Builtin.copy_ #[26, 26] ty #[.slice (some ⟨w.heap.size, i * 4, none⟩) (n + 1 - i) dc, .slice (some ⟨vb, 0, none⟩) 1 vc]).run Tryd.prog W = .ok (goInt 1) (W.setRow w.heap.size R1) := fun W hW ty dc => by
    have hc : ∀ x, W.cell? x = W1.cell? x := fun x => by simp only [World.cell?, hW]
    rw [hR1]
    exact run_copy_rows W _ _ ty 74 4 w.heap.size (i * 4) (n + 1 - i) dc ⟨vb, 0, none⟩ 1 vc ROW _ sesZ hu hsz (by rw [hW]; exact hB1) 1 (by simp only [Nat.min_def]; split <;> omega) rfl
      (fun j v hj => by rw [Addr.add_lit, hc, hOl _ _ hvw]; simpa using hvs j v hj) (by simp [sesZ]; omega) (by simp [sesZ, Value.oneCell'])
  have hdl : (cs.drop (i * 4)).length = (n - i) * 4 := by rw [List.length_drop, hcl]; omega
  have hcpB : ∀ (W : World), W.heap = (W1.setRow w.heap.size R1).heap → ∀ ty dc sc, (Builtin.copy_ #[26, 26] ty #[.slice (some ⟨w.heap.size, (i + 1) * 4, none⟩) (n + 1 - (i + 1)) dc, .slice (some ⟨g, i * 4, none⟩) (n - i) sc]).run Tryd.prog W = .ok (goInt ((n - i : Nat) : Int)) (W.setRow w.heap.size R2) := fun W hW ty dc sc => by
    have hc : ∀ k j, k < w.heap.size → W.cell? ⟨k, j, none⟩ = W1.cell? ⟨k, j, none⟩ := fun k j hk => by
      simp only [World.cell?, hW]
      rw [setRow_other _ _ _ _ (by omega)]
    rw [hR2, show i * 4 + 4 = (i + 1) * 4 by omega]
    exact run_copy_rows W _ _ ty 74 4 w.heap.size ((i + 1) * 4) (n + 1 - (i + 1)) dc ⟨g, i * 4, none⟩ (n - i) sc R1 74 (cs.drop (i * 4)) hu hsz (by rw [hW]; exact setRow_heap W1 _ ROW _ _ _ hB1) (n - i) (by simp only [Nat.min_def]; split <;> omega) hdl
      (fun j v hj => by
        rw [Addr.add_lit, hc _ _ hgw, hOl _ _ hgw]
        exact hcs (i * 4 + j) v (by rwa [List.getElem?_drop] at hj)) (by rw [hdl, hR1l]; omega) (fun v hv => h1c v (List.mem_of_mem_drop hv))
  have mixed : Tryd.prog.follows .mixedOrders = true := by kernel_rfl
  have hGi : ¬ (G = i) := by omega
  have hGim : ¬ (G = i + 1) := by omega
  have hni : ¬ (n = i) := by omega
  have hz2 : ¬ ((i : Int) = (n : Int)) := by omega
  have hw1 : IntKind.i64.wrap ((i : Int) + 1) = (i : Int) + 1 := by rw [IntKind.wrap_i64]; omega
  have htn : ((i : Int) + 1).toNat = i + 1 := by omega
  have hb1 : (0 : Int) ≤ (i : Int) + 1 := by omega
  have hb3 : (i : Int) ≤ (n : Int) := by omega
  have hE1 : ((w.alloc (.cells ROW 74)).drew).heap = W1.heap := by rw [hW1]; rfl
  have hF1 : (((w.alloc (.cells ROW 74)).drew.setRow w.heap.size R1).drew).heap = (W1.setRow w.heap.size R1).heap := by rw [hW1]; rfl
  have HEND : Hid (∀ W : World, W.heap = (W1.setRow w.heap.size R1).heap → W.os = w.os → W.tape = w.tape → W.output = w.output → (W.setRow w.heap.size R2).heap[w.heap.size]? = some (.cells R2 74 (0, 0)) ∧ w.grownBy (W.setRow w.heap.size R2) none) := by
    intro W hW ho ht hp
    have hb : W.heap[w.heap.size]? = some (.cells R1 74 (0, 0)) := by rw [hW]; exact setRow_heap W1 _ ROW _ _ _ hB1
    have hs : W.heap.size = w.heap.size + 1 := by rw [hW, hW1]; simp [World.setRow]
    refine ⟨setRow_heap W _ R1 _ _ _ hb, ⟨ho, ht, hp, by simp [World.setRow, hs], fun k hk _ => ?_⟩⟩
    rw [setRow_other _ _ _ _ (by omega), hW, setRow_other _ _ _ _ (by omega), hW1]
    exact (World.grownBy_alloc w.drew _ none).block k hk (by simp)
  clear hkk hik hold hRl hRt hR1 hR1l hR2 hdl hB1 hOl hcs hvs h1c hcl hW1
  go_enter Tryd.func62, Tryd.ntmps62
  go_wp2_with (first
    | (at_builtin; refine Lib.wpList_append_run _ rfl _ _ _ _ rfl _ _ rfl rfl _ _ (hrz _) ?_)
    | (at_builtin; refine wpList_copy_runI _ rfl _ _ 26 26 rfl _ _ rfl rfl (hcpA _ hE1 _ _) ?_))
  go_region_law_o (refine step_copy_runI rfl _ _ 26 26 rfl (.slice (some ⟨w.heap.size, (i + 1) * 4, none⟩) (n + 1 - (i + 1)) (G - (i + 1))) (.slice (some ⟨g, i * 4, none⟩) (n - i) (n - i)) (by simp [Act.eval, Act.put]) (by simp [Act.eval, Act.put]) (hcpB _ hF1 3 (G - (i + 1)) (n - i)) ?_)
  go_wp2
  go_ret
  exact ⟨G, R2, rfl, hGn, (HEND.out _ hF1 rfl rfl rfl).1, HROW.out, (HEND.out _ hF1 rfl rfl rfl).2⟩
end Go.Proofs.YtdajcpcajdhplaaDoor

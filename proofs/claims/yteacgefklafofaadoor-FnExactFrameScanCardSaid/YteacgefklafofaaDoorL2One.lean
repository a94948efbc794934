/-
  The model's l2One, where the bytes don't begin with a record: walked.
-/
import Derived.Test.YteacgefklafofaaDoorScanMath2
import Derived.Test.YteacgefklafofaaDoorRecRow
import Derived.Test.YteacgefklafofaaDoorTakeS
import Derived.Test.YteacgefklafofaaDoorStrB
import Derived.Laws.Rows
namespace Go.Proofs.YteacgefklafofaaDoor
open Go.RowKit

theorem results_rec {fn : Func} {t u v : Tmp} {w : World} {g : Nat} {x y : Value} {tmps : Array Value} (h : fn.results = #[.cell t 33, .tmp u, .tmp v]) (ht : tmps.getD t undef = .pointer (some ⟨g, 0, none⟩)) (hg : w.heap[g]? = some (.cells #[x, y] 33 (0, 0))) :
    (results fn tmps).run Tryd.prog w = .ok (.tuple #[.agg #[x, y], tmps.getD u undef, tmps.getD v undef]) w := by
  have h1 : (loadVar 33 ⟨g, 0, none⟩).run Tryd.prog w = .ok (.agg #[x, y]) w := by
    have hl : (loadCells ⟨g, 0, none⟩ 2).run Tryd.prog w = .ok #[x, y] w := by
      have := run_loadCells_list (P := Tryd.prog) (w := w) ⟨g, 0, none⟩ [x, y] (by
        intro j u hj
        match j, hj with
        | 0, hj => simp at hj; subst hj; simp [Addr.add, World.cell?, hg]
        | 1, hj => simp at hj; subst hj; simp [Addr.add, World.cell?, hg])
      simpa using this
    unfold loadVar
    simp [Sem.run_bind, Tryd.isAgg33, Tryd.sizeOf33, Result.andThen, hl]
  have ht' : tmps[t]?.getD undef = .pointer (some ⟨g, 0, none⟩) := by simpa using ht
  simp [results, h, ht', h1, Result.andThen, asAddr]

set_option maxHeartbeats 1000000 in
theorem l2One_short (oa : Option Addr) (len cap : Nat) (w : World) (h : len < 12) :
    Calls Tryd.prog 40 #[.slice oa len cap] w fun e w' => e = .returned (.tuple #[.agg #[.int .i64 0, .slice none 0 0], .int .i64 0, .int .i64 (if len = 0 then 0 else 1)]) ∧ w.grownBy w' none := by
  by_cases h0 : len = 0
  · subst h0
    rw [if_pos rfl]
    go_enter Tryd.func40, Tryd.ntmps40
    go_wp2
    refine bodyPost_ret (results_rec rfl rfl (heap_alloc_new w _)) rfl ?_
    exact ⟨rfl, World.grownBy_alloc w _ none⟩
  · rw [if_neg h0]
    go_enter Tryd.func40, Tryd.ntmps40
    go_wp2
    refine bodyPost_ret (results_rec rfl rfl (heap_alloc_new w _)) rfl ?_
    exact ⟨rfl, World.grownBy_alloc w _ none⟩

set_option maxHeartbeats 2000000 in
theorem l2One_head (b off : Nat) (len cap : Nat) (zs : List Nat) (w : World) (hsl : SlB w (some ⟨b, off, none⟩) len zs) (h12 : 12 ≤ len) (hlc : len ≤ cap) (hm : len ≤ 1073741824) (hbad : headBad zs) :
    Calls Tryd.prog 40 #[.slice (some ⟨b, off, none⟩) len cap] w fun e w' => e = .returned (.tuple #[.agg #[.int .i64 0, .slice none 0 0], .int .i64 0, .int .i64 2]) ∧ w.grownBy w' none := by
  have hbl : b < w.heap.size := cell_block_lt (hsl.cellAt 0 (by omega))
  have hG : w.grownBy (w.alloc (.cells #[.int .i64 0, .slice none 0 0] 33)) none := World.grownBy_alloc w _ none
  have hs2 := hsl.grown0 hG
  have HT : Hid (∀ w' : World, w'.heap = (w.alloc (.cells #[.int .i64 0, .slice none 0 0] 33)).heap → Calls _ _ _ w' _) := fun w' hh => l2Get_any (some ⟨b, off, none⟩) 4 cap (zs.take 4) w' ((hs2.take 4 (by omega)).heap hh) (by omega)
  rw [satVal_four (zs.take 4) (fun z hz => hsl.2.1 z (List.mem_of_mem_take hz)) (by simp; omega), show leVal (zs.take 4) = recN zs from rfl] at HT
  have hn := recN_lt zs hsl.2.1
  have c4 := hs2.cellAt 4 (by omega)
  have c5 := hs2.cellAt 5 (by omega)
  have c6 := hs2.cellAt 6 (by omega)
  have c7 := hs2.cellAt 7 (by omega)
  have l4 : zs.getD 4 0 < 256 := hsl.2.1 _ (Crc.getD_mem _ _ (by have := hsl.1; omega))
  have l5 : zs.getD 5 0 < 256 := hsl.2.1 _ (Crc.getD_mem _ _ (by have := hsl.1; omega))
  have l6 : zs.getD 6 0 < 256 := hsl.2.1 _ (Crc.getD_mem _ _ (by have := hsl.1; omega))
  have l7 : zs.getD 7 0 < 256 := hsl.2.1 _ (Crc.getD_mem _ _ (by have := hsl.1; omega))
  unfold headBad at hbad
  generalize recN zs = n at *
  generalize zs.getD 4 0 = z4 at *
  generalize zs.getD 5 0 = z5 at *
  generalize zs.getD 6 0 = z6 at *
  generalize zs.getD 7 0 = z7 at *
  clear hsl hs2 hG
  have hlI : (12 : Int) ≤ (len : Int) := by omega
  have hcI : (4 : Int) ≤ (cap : Int) := by omega
  by_cases g0 : 8192 < n
  · clear hbad
    go_enter Tryd.func40, Tryd.ntmps40
    go_wp2_with fail
    refine (HT.out _ rfl).mono ?_
    clear HT
    rintro e w1 ⟨rfl, rfl⟩
    go_wp2
    refine bodyPost_ret (results_rec rfl rfl (heap_alloc_new w _)) rfl ?_
    exact ⟨rfl, World.grownBy_alloc w _ none⟩
  · by_cases g4 : z4 = 0
    · clear hbad
      subst g4
      go_enter Tryd.func40, Tryd.ntmps40
      go_wp2_with fail
      refine (HT.out _ rfl).mono ?_
      clear HT
      rintro e w1 ⟨rfl, rfl⟩
      go_wp2
      refine bodyPost_ret (results_rec rfl rfl (heap_alloc_new w _)) rfl ?_
      exact ⟨rfl, World.grownBy_alloc w _ none⟩
    · by_cases g5 : z5 = 0
      · subst g5
        by_cases g6 : z6 = 0
        · subst g6
          have g7 : z7 ≠ 0 := by
            rcases hbad with h | h | h | h | h
            · exact absurd h g0
            · exact absurd h g4
            · exact absurd rfl h
            · exact absurd rfl h
            · exact h
          clear hbad
          have d7 : ((z7 : Int) != 0) = true := by rw [bne_iff_ne]; omega
          have d4 : ((z4 : Int) == 0) = false := by rw [beq_eq_false_iff_ne]; omega
          go_enter Tryd.func40, Tryd.ntmps40
          go_wp2_with fail
          refine (HT.out _ rfl).mono ?_
          clear HT
          rintro e w1 ⟨rfl, rfl⟩
          go_wp2
          refine bodyPost_ret (results_rec rfl rfl (heap_alloc_new w _)) rfl ?_
          exact ⟨rfl, World.grownBy_alloc w _ none⟩
        · clear hbad
          go_enter Tryd.func40, Tryd.ntmps40
          go_wp2_with fail
          refine (HT.out _ rfl).mono ?_
          clear HT
          rintro e w1 ⟨rfl, rfl⟩
          go_wp2
          refine bodyPost_ret (results_rec rfl rfl (heap_alloc_new w _)) rfl ?_
          exact ⟨rfl, World.grownBy_alloc w _ none⟩
      · clear hbad
        go_enter Tryd.func40, Tryd.ntmps40
        go_wp2_with fail
        refine (HT.out _ rfl).mono ?_
        clear HT
        rintro e w1 ⟨rfl, rfl⟩
        go_wp2
        refine bodyPost_ret (results_rec rfl rfl (heap_alloc_new w _)) rfl ?_
        exact ⟨rfl, World.grownBy_alloc w _ none⟩
end Go.Proofs.YteacgefklafofaaDoor

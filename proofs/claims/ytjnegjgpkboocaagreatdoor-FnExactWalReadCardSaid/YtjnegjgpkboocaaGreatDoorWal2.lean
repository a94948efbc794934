/-
  FormW, RegZ
-/
import Derived.Test.YtjnegjgpkboocaaGreatDoorWal1
import Derived.Deep.DeepCutAuto
import Derived.Deep.CutRange
import Derived.Deep.MidRow
import Derived.OrdersHeld
import Derived.StillTail
/-
  The forms of records: recordForms and take, walked.
-/
namespace Go.Proofs.YtjnegjgpkboocaaGreatDoor
open Go.RowKit

/-- the bounds of a type's numbers, and the most bytes behind them -/
def wb : Nat → List (Nat × Nat)
  | 1 => [(1, 99999999), (1, 1000000), (0, 1000000000)]
  | 2 => [(1, 1000000), (0, 1000000000)]
  | 3 => [(1, 1000000), (0, 1000000000)]
  | 4 => [(0, 1000000000), (0, 7)]
  | 5 => [(1, 1000000), (0, 1000000000)]
  | 6 => [(0, 1000000)]
  | 7 => [(0, 1000000), (0, 1000000000)]
  | _ => []
def wroom : Nat → Nat
  | 2 => 128
  | 5 => 8000
  | _ => 0
/-- bounds as they lie -/
def bcs (bs : List (Nat × Nat)) : List Value := bs.flatMap (fun b => [.int .i64 (b.1 : Int), .int .i64 (b.2 : Int)])
def BdR (w : World) (g : Nat) (bs : List (Nat × Nat)) : Prop := w.heap[g]? = some (.cells (bcs bs).toArray 113 (0, 0))
/-- the table of forms, its rows of bounds from block S on -/
def formCs (S : Nat) : List Value := [.slice none 0 0, .int .i64 0, .nilFunc, .slice (some ⟨S, 0, none⟩) 3 3, .int .i64 0, .func (.func 53) #[] #[], .slice (some ⟨S + 1, 0, none⟩) 2 2, .int .i64 128, .func (.func 54) #[] #[], .slice (some ⟨S + 2, 0, none⟩) 2 2, .int .i64 0, .func (.func 55) #[] #[], .slice (some ⟨S + 3, 0, none⟩) 2 2, .int .i64 0, .func (.func 56) #[] #[], .slice (some ⟨S + 4, 0, none⟩) 2 2, .int .i64 8000, .func (.func 56) #[] #[], .slice (some ⟨S + 5, 0, none⟩) 1 1, .int .i64 0, .func (.func 56) #[] #[], .slice (some ⟨S + 6, 0, none⟩) 2 2, .int .i64 0, .func (.func 57) #[] #[]]
def Forms (w : World) (S : Nat) : Prop := ∀ ty, 1 ≤ ty → ty ≤ 7 → BdR w (S + (ty - 1)) (wb ty)
theorem Forms.grown0 {w w' : World} {S : Nat} (h : Forms w S) (hg : w.grownBy w' none) : Forms w' S := fun ty h1 h2 => grown_blk hg (h ty h1 h2)
theorem setCells_oth (g k : Nat) (hk : k ≠ g) : ∀ (vs : List Value) (o : Nat) (w : World), (w.setCells g o vs).heap[k]? = w.heap[k]?
  | [], _, _ => rfl
  | v :: r, o, w => by rw [World.setCells, setCells_oth g k hk r (o + 1) _, heap_setCell_other w _ k v hk]
set_option maxRecDepth 8000 in
set_option maxHeartbeats 4000000 in
theorem recordForms_any (w : World) :
    Calls Tryz.prog 37 #[] w fun e w' => ∃ S, e = .returned (.agg (formCs S).toArray) ∧ Forms w' S ∧ w.heap.size ≤ S ∧ w.grownBy w' none := by
  have hT : ∀ Y : World, (w.alloc (.cells #[.slice none 0 0, .int .i64 0, .nilFunc, .slice none 0 0, .int .i64 0, .nilFunc, .slice none 0 0, .int .i64 0, .nilFunc, .slice none 0 0, .int .i64 0, .nilFunc, .slice none 0 0, .int .i64 0, .nilFunc, .slice none 0 0, .int .i64 0, .nilFunc, .slice none 0 0, .int .i64 0, .nilFunc, .slice none 0 0, .int .i64 0, .nilFunc] 58)).grownBy Y none → Y.there w.heap.size 0 24 := fun Y hY => (there_of_block (grown_blk hY (heap_alloc_new w _)) (by simp)).1
  go_enter Tryz.func37, Tryz.ntmps37
  go_wp2_with (refine wpList_store_mid (by rfl) _ (.tmp 0) (.tmp 39) (by rfl) _ _ _ (by rfl) (by rfl) ?sa ?sb ?sc ?sd; exact hT _ (by repeat (first | exact grownBy_refl _ _ | apply grownBy_alloc)); show _ = some 24; kernel_rfl; exact all_oneCell_toArray (List.all_eq_true.1 rfl); simp only [Act.put])
  generalize hW : ((((((((((((w.alloc (.cells #[.slice none 0 0, .int .i64 0, .nilFunc, .slice none 0 0, .int .i64 0, .nilFunc, .slice none 0 0, .int .i64 0, .nilFunc, .slice none 0 0, .int .i64 0, .nilFunc, .slice none 0 0, .int .i64 0, .nilFunc, .slice none 0 0, .int .i64 0, .nilFunc, .slice none 0 0, .int .i64 0, .nilFunc, .slice none 0 0, .int .i64 0, .nilFunc] 58)).alloc (.cells #[.int .i64 1, .int .i64 99999999] 113)).alloc (.cells #[.int .i64 0, .int .i64 1000000] 113)).alloc (.cells #[.int .i64 1, .int .i64 1000000] 113)).alloc (.cells #[.int .i64 0, .int .i64 1000000000] 113)).alloc (.cells #[.int .i64 0, .int .i64 7] 113)).alloc (.cells #[.int .i64 1, .int .i64 99999999, .int .i64 1, .int .i64 1000000, .int .i64 0, .int .i64 1000000000] 113)).alloc (.cells #[.int .i64 1, .int .i64 1000000, .int .i64 0, .int .i64 1000000000] 113)).alloc (.cells #[.int .i64 1, .int .i64 1000000, .int .i64 0, .int .i64 1000000000] 113)).alloc (.cells #[.int .i64 0, .int .i64 1000000000, .int .i64 0, .int .i64 7] 113)).alloc (.cells #[.int .i64 1, .int .i64 1000000, .int .i64 0, .int .i64 1000000000] 113)).alloc (.cells #[.int .i64 0, .int .i64 1000000] 113)).alloc (.cells #[.int .i64 0, .int .i64 1000000, .int .i64 0, .int .i64 1000000000] 113) = W
  have HW : Hid (W.there w.heap.size 0 24 ∧ w.grownBy W none ∧ W.heap[w.heap.size + 6]? = some (.cells #[.int .i64 1, .int .i64 99999999, .int .i64 1, .int .i64 1000000, .int .i64 0, .int .i64 1000000000] 113 (0, 0)) ∧ W.heap[w.heap.size + 7]? = some (.cells #[.int .i64 1, .int .i64 1000000, .int .i64 0, .int .i64 1000000000] 113 (0, 0)) ∧ W.heap[w.heap.size + 8]? = some (.cells #[.int .i64 1, .int .i64 1000000, .int .i64 0, .int .i64 1000000000] 113 (0, 0)) ∧ W.heap[w.heap.size + 9]? = some (.cells #[.int .i64 0, .int .i64 1000000000, .int .i64 0, .int .i64 7] 113 (0, 0)) ∧ W.heap[w.heap.size + 10]? = some (.cells #[.int .i64 1, .int .i64 1000000, .int .i64 0, .int .i64 1000000000] 113 (0, 0)) ∧ W.heap[w.heap.size + 11]? = some (.cells #[.int .i64 0, .int .i64 1000000] 113 (0, 0)) ∧ W.heap[w.heap.size + 12]? = some (.cells #[.int .i64 0, .int .i64 1000000, .int .i64 0, .int .i64 1000000000] 113 (0, 0))) := by
    subst hW; refine ⟨hT _ (by repeat (first | exact grownBy_refl _ _ | apply grownBy_alloc)), (by repeat (first | exact World.grownBy_alloc _ _ _ | apply grownBy_alloc)), ?_, ?_, ?_, ?_, ?_, ?_, ?_⟩
    · have h := heap_alloc_new ((((((w.alloc (.cells #[.slice none 0 0, .int .i64 0, .nilFunc, .slice none 0 0, .int .i64 0, .nilFunc, .slice none 0 0, .int .i64 0, .nilFunc, .slice none 0 0, .int .i64 0, .nilFunc, .slice none 0 0, .int .i64 0, .nilFunc, .slice none 0 0, .int .i64 0, .nilFunc, .slice none 0 0, .int .i64 0, .nilFunc, .slice none 0 0, .int .i64 0, .nilFunc] 58)).alloc (.cells #[.int .i64 1, .int .i64 99999999] 113)).alloc (.cells #[.int .i64 0, .int .i64 1000000] 113)).alloc (.cells #[.int .i64 1, .int .i64 1000000] 113)).alloc (.cells #[.int .i64 0, .int .i64 1000000000] 113)).alloc (.cells #[.int .i64 0, .int .i64 7] 113)) (.cells #[.int .i64 1, .int .i64 99999999, .int .i64 1, .int .i64 1000000, .int .i64 0, .int .i64 1000000000] 113 (0, 0))
      have e : ((((((w.alloc (.cells #[.slice none 0 0, .int .i64 0, .nilFunc, .slice none 0 0, .int .i64 0, .nilFunc, .slice none 0 0, .int .i64 0, .nilFunc, .slice none 0 0, .int .i64 0, .nilFunc, .slice none 0 0, .int .i64 0, .nilFunc, .slice none 0 0, .int .i64 0, .nilFunc, .slice none 0 0, .int .i64 0, .nilFunc, .slice none 0 0, .int .i64 0, .nilFunc] 58)).alloc (.cells #[.int .i64 1, .int .i64 99999999] 113)).alloc (.cells #[.int .i64 0, .int .i64 1000000] 113)).alloc (.cells #[.int .i64 1, .int .i64 1000000] 113)).alloc (.cells #[.int .i64 0, .int .i64 1000000000] 113)).alloc (.cells #[.int .i64 0, .int .i64 7] 113)).heap.size = w.heap.size + 6 := by simp
      rw [e] at h; exact (grown_blk (World.grownBy_alloc _ _ _) (grown_blk (World.grownBy_alloc _ _ _) (grown_blk (World.grownBy_alloc _ _ _) (grown_blk (World.grownBy_alloc _ _ _) (grown_blk (World.grownBy_alloc _ _ _) (grown_blk (World.grownBy_alloc _ _ _) h))))))
    · have h := heap_alloc_new (((((((w.alloc (.cells #[.slice none 0 0, .int .i64 0, .nilFunc, .slice none 0 0, .int .i64 0, .nilFunc, .slice none 0 0, .int .i64 0, .nilFunc, .slice none 0 0, .int .i64 0, .nilFunc, .slice none 0 0, .int .i64 0, .nilFunc, .slice none 0 0, .int .i64 0, .nilFunc, .slice none 0 0, .int .i64 0, .nilFunc, .slice none 0 0, .int .i64 0, .nilFunc] 58)).alloc (.cells #[.int .i64 1, .int .i64 99999999] 113)).alloc (.cells #[.int .i64 0, .int .i64 1000000] 113)).alloc (.cells #[.int .i64 1, .int .i64 1000000] 113)).alloc (.cells #[.int .i64 0, .int .i64 1000000000] 113)).alloc (.cells #[.int .i64 0, .int .i64 7] 113)).alloc (.cells #[.int .i64 1, .int .i64 99999999, .int .i64 1, .int .i64 1000000, .int .i64 0, .int .i64 1000000000] 113)) (.cells #[.int .i64 1, .int .i64 1000000, .int .i64 0, .int .i64 1000000000] 113 (0, 0))
      have e : (((((((w.alloc (.cells #[.slice none 0 0, .int .i64 0, .nilFunc, .slice none 0 0, .int .i64 0, .nilFunc, .slice none 0 0, .int .i64 0, .nilFunc, .slice none 0 0, .int .i64 0, .nilFunc, .slice none 0 0, .int .i64 0, .nilFunc, .slice none 0 0, .int .i64 0, .nilFunc, .slice none 0 0, .int .i64 0, .nilFunc, .slice none 0 0, .int .i64 0, .nilFunc] 58)).alloc (.cells #[.int .i64 1, .int .i64 99999999] 113)).alloc (.cells #[.int .i64 0, .int .i64 1000000] 113)).alloc (.cells #[.int .i64 1, .int .i64 1000000] 113)).alloc (.cells #[.int .i64 0, .int .i64 1000000000] 113)).alloc (.cells #[.int .i64 0, .int .i64 7] 113)).alloc (.cells #[.int .i64 1, .int .i64 99999999, .int .i64 1, .int .i64 1000000, .int .i64 0, .int .i64 1000000000] 113)).heap.size = w.heap.size + 7 := by simp
      rw [e] at h; exact (grown_blk (World.grownBy_alloc _ _ _) (grown_blk (World.grownBy_alloc _ _ _) (grown_blk (World.grownBy_alloc _ _ _) (grown_blk (World.grownBy_alloc _ _ _) (grown_blk (World.grownBy_alloc _ _ _) h)))))
    · have h := heap_alloc_new ((((((((w.alloc (.cells #[.slice none 0 0, .int .i64 0, .nilFunc, .slice none 0 0, .int .i64 0, .nilFunc, .slice none 0 0, .int .i64 0, .nilFunc, .slice none 0 0, .int .i64 0, .nilFunc, .slice none 0 0, .int .i64 0, .nilFunc, .slice none 0 0, .int .i64 0, .nilFunc, .slice none 0 0, .int .i64 0, .nilFunc, .slice none 0 0, .int .i64 0, .nilFunc] 58)).alloc (.cells #[.int .i64 1, .int .i64 99999999] 113)).alloc (.cells #[.int .i64 0, .int .i64 1000000] 113)).alloc (.cells #[.int .i64 1, .int .i64 1000000] 113)).alloc (.cells #[.int .i64 0, .int .i64 1000000000] 113)).alloc (.cells #[.int .i64 0, .int .i64 7] 113)).alloc (.cells #[.int .i64 1, .int .i64 99999999, .int .i64 1, .int .i64 1000000, .int .i64 0, .int .i64 1000000000] 113)).alloc (.cells #[.int .i64 1, .int .i64 1000000, .int .i64 0, .int .i64 1000000000] 113)) (.cells #[.int .i64 1, .int .i64 1000000, .int .i64 0, .int .i64 1000000000] 113 (0, 0))
      have e : ((((((((w.alloc (.cells #[.slice none 0 0, .int .i64 0, .nilFunc, .slice none 0 0, .int .i64 0, .nilFunc, .slice none 0 0, .int .i64 0, .nilFunc, .slice none 0 0, .int .i64 0, .nilFunc, .slice none 0 0, .int .i64 0, .nilFunc, .slice none 0 0, .int .i64 0, .nilFunc, .slice none 0 0, .int .i64 0, .nilFunc, .slice none 0 0, .int .i64 0, .nilFunc] 58)).alloc (.cells #[.int .i64 1, .int .i64 99999999] 113)).alloc (.cells #[.int .i64 0, .int .i64 1000000] 113)).alloc (.cells #[.int .i64 1, .int .i64 1000000] 113)).alloc (.cells #[.int .i64 0, .int .i64 1000000000] 113)).alloc (.cells #[.int .i64 0, .int .i64 7] 113)).alloc (.cells #[.int .i64 1, .int .i64 99999999, .int .i64 1, .int .i64 1000000, .int .i64 0, .int .i64 1000000000] 113)).alloc (.cells #[.int .i64 1, .int .i64 1000000, .int .i64 0, .int .i64 1000000000] 113)).heap.size = w.heap.size + 8 := by simp
      rw [e] at h; exact (grown_blk (World.grownBy_alloc _ _ _) (grown_blk (World.grownBy_alloc _ _ _) (grown_blk (World.grownBy_alloc _ _ _) (grown_blk (World.grownBy_alloc _ _ _) h))))
    · have h := heap_alloc_new (((((((((w.alloc (.cells #[.slice none 0 0, .int .i64 0, .nilFunc, .slice none 0 0, .int .i64 0, .nilFunc, .slice none 0 0, .int .i64 0, .nilFunc, .slice none 0 0, .int .i64 0, .nilFunc, .slice none 0 0, .int .i64 0, .nilFunc, .slice none 0 0, .int .i64 0, .nilFunc, .slice none 0 0, .int .i64 0, .nilFunc, .slice none 0 0, .int .i64 0, .nilFunc] 58)).alloc (.cells #[.int .i64 1, .int .i64 99999999] 113)).alloc (.cells #[.int .i64 0, .int .i64 1000000] 113)).alloc (.cells #[.int .i64 1, .int .i64 1000000] 113)).alloc (.cells #[.int .i64 0, .int .i64 1000000000] 113)).alloc (.cells #[.int .i64 0, .int .i64 7] 113)).alloc (.cells #[.int .i64 1, .int .i64 99999999, .int .i64 1, .int .i64 1000000, .int .i64 0, .int .i64 1000000000] 113)).alloc (.cells #[.int .i64 1, .int .i64 1000000, .int .i64 0, .int .i64 1000000000] 113)).alloc (.cells #[.int .i64 1, .int .i64 1000000, .int .i64 0, .int .i64 1000000000] 113)) (.cells #[.int .i64 0, .int .i64 1000000000, .int .i64 0, .int .i64 7] 113 (0, 0))
      have e : (((((((((w.alloc (.cells #[.slice none 0 0, .int .i64 0, .nilFunc, .slice none 0 0, .int .i64 0, .nilFunc, .slice none 0 0, .int .i64 0, .nilFunc, .slice none 0 0, .int .i64 0, .nilFunc, .slice none 0 0, .int .i64 0, .nilFunc, .slice none 0 0, .int .i64 0, .nilFunc, .slice none 0 0, .int .i64 0, .nilFunc, .slice none 0 0, .int .i64 0, .nilFunc] 58)).alloc (.cells #[.int .i64 1, .int .i64 99999999] 113)).alloc (.cells #[.int .i64 0, .int .i64 1000000] 113)).alloc (.cells #[.int .i64 1, .int .i64 1000000] 113)).alloc (.cells #[.int .i64 0, .int .i64 1000000000] 113)).alloc (.cells #[.int .i64 0, .int .i64 7] 113)).alloc (.cells #[.int .i64 1, .int .i64 99999999, .int .i64 1, .int .i64 1000000, .int .i64 0, .int .i64 1000000000] 113)).alloc (.cells #[.int .i64 1, .int .i64 1000000, .int .i64 0, .int .i64 1000000000] 113)).alloc (.cells #[.int .i64 1, .int .i64 1000000, .int .i64 0, .int .i64 1000000000] 113)).heap.size = w.heap.size + 9 := by simp
      rw [e] at h; exact (grown_blk (World.grownBy_alloc _ _ _) (grown_blk (World.grownBy_alloc _ _ _) (grown_blk (World.grownBy_alloc _ _ _) h)))
    · have h := heap_alloc_new ((((((((((w.alloc (.cells #[.slice none 0 0, .int .i64 0, .nilFunc, .slice none 0 0, .int .i64 0, .nilFunc, .slice none 0 0, .int .i64 0, .nilFunc, .slice none 0 0, .int .i64 0, .nilFunc, .slice none 0 0, .int .i64 0, .nilFunc, .slice none 0 0, .int .i64 0, .nilFunc, .slice none 0 0, .int .i64 0, .nilFunc, .slice none 0 0, .int .i64 0, .nilFunc] 58)).alloc (.cells #[.int .i64 1, .int .i64 99999999] 113)).alloc (.cells #[.int .i64 0, .int .i64 1000000] 113)).alloc (.cells #[.int .i64 1, .int .i64 1000000] 113)).alloc (.cells #[.int .i64 0, .int .i64 1000000000] 113)).alloc (.cells #[.int .i64 0, .int .i64 7] 113)).alloc (.cells #[.int .i64 1, .int .i64 99999999, .int .i64 1, .int .i64 1000000, .int .i64 0, .int .i64 1000000000] 113)).alloc (.cells #[.int .i64 1, .int .i64 1000000, .int .i64 0, .int .i64 1000000000] 113)).alloc (.cells #[.int .i64 1, .int .i64 1000000, .int .i64 0, .int .i64 1000000000] 113)).alloc (.cells #[.int .i64 0, .int .i64 1000000000, .int .i64 0, .int .i64 7] 113)) (.cells #[.int .i64 1, .int .i64 1000000, .int .i64 0, .int .i64 1000000000] 113 (0, 0))
      have e : ((((((((((w.alloc (.cells #[.slice none 0 0, .int .i64 0, .nilFunc, .slice none 0 0, .int .i64 0, .nilFunc, .slice none 0 0, .int .i64 0, .nilFunc, .slice none 0 0, .int .i64 0, .nilFunc, .slice none 0 0, .int .i64 0, .nilFunc, .slice none 0 0, .int .i64 0, .nilFunc, .slice none 0 0, .int .i64 0, .nilFunc, .slice none 0 0, .int .i64 0, .nilFunc] 58)).alloc (.cells #[.int .i64 1, .int .i64 99999999] 113)).alloc (.cells #[.int .i64 0, .int .i64 1000000] 113)).alloc (.cells #[.int .i64 1, .int .i64 1000000] 113)).alloc (.cells #[.int .i64 0, .int .i64 1000000000] 113)).alloc (.cells #[.int .i64 0, .int .i64 7] 113)).alloc (.cells #[.int .i64 1, .int .i64 99999999, .int .i64 1, .int .i64 1000000, .int .i64 0, .int .i64 1000000000] 113)).alloc (.cells #[.int .i64 1, .int .i64 1000000, .int .i64 0, .int .i64 1000000000] 113)).alloc (.cells #[.int .i64 1, .int .i64 1000000, .int .i64 0, .int .i64 1000000000] 113)).alloc (.cells #[.int .i64 0, .int .i64 1000000000, .int .i64 0, .int .i64 7] 113)).heap.size = w.heap.size + 10 := by simp
      rw [e] at h; exact (grown_blk (World.grownBy_alloc _ _ _) (grown_blk (World.grownBy_alloc _ _ _) h))
    · have h := heap_alloc_new (((((((((((w.alloc (.cells #[.slice none 0 0, .int .i64 0, .nilFunc, .slice none 0 0, .int .i64 0, .nilFunc, .slice none 0 0, .int .i64 0, .nilFunc, .slice none 0 0, .int .i64 0, .nilFunc, .slice none 0 0, .int .i64 0, .nilFunc, .slice none 0 0, .int .i64 0, .nilFunc, .slice none 0 0, .int .i64 0, .nilFunc, .slice none 0 0, .int .i64 0, .nilFunc] 58)).alloc (.cells #[.int .i64 1, .int .i64 99999999] 113)).alloc (.cells #[.int .i64 0, .int .i64 1000000] 113)).alloc (.cells #[.int .i64 1, .int .i64 1000000] 113)).alloc (.cells #[.int .i64 0, .int .i64 1000000000] 113)).alloc (.cells #[.int .i64 0, .int .i64 7] 113)).alloc (.cells #[.int .i64 1, .int .i64 99999999, .int .i64 1, .int .i64 1000000, .int .i64 0, .int .i64 1000000000] 113)).alloc (.cells #[.int .i64 1, .int .i64 1000000, .int .i64 0, .int .i64 1000000000] 113)).alloc (.cells #[.int .i64 1, .int .i64 1000000, .int .i64 0, .int .i64 1000000000] 113)).alloc (.cells #[.int .i64 0, .int .i64 1000000000, .int .i64 0, .int .i64 7] 113)).alloc (.cells #[.int .i64 1, .int .i64 1000000, .int .i64 0, .int .i64 1000000000] 113)) (.cells #[.int .i64 0, .int .i64 1000000] 113 (0, 0))
      have e : (((((((((((w.alloc (.cells #[.slice none 0 0, .int .i64 0, .nilFunc, .slice none 0 0, .int .i64 0, .nilFunc, .slice none 0 0, .int .i64 0, .nilFunc, .slice none 0 0, .int .i64 0, .nilFunc, .slice none 0 0, .int .i64 0, .nilFunc, .slice none 0 0, .int .i64 0, .nilFunc, .slice none 0 0, .int .i64 0, .nilFunc, .slice none 0 0, .int .i64 0, .nilFunc] 58)).alloc (.cells #[.int .i64 1, .int .i64 99999999] 113)).alloc (.cells #[.int .i64 0, .int .i64 1000000] 113)).alloc (.cells #[.int .i64 1, .int .i64 1000000] 113)).alloc (.cells #[.int .i64 0, .int .i64 1000000000] 113)).alloc (.cells #[.int .i64 0, .int .i64 7] 113)).alloc (.cells #[.int .i64 1, .int .i64 99999999, .int .i64 1, .int .i64 1000000, .int .i64 0, .int .i64 1000000000] 113)).alloc (.cells #[.int .i64 1, .int .i64 1000000, .int .i64 0, .int .i64 1000000000] 113)).alloc (.cells #[.int .i64 1, .int .i64 1000000, .int .i64 0, .int .i64 1000000000] 113)).alloc (.cells #[.int .i64 0, .int .i64 1000000000, .int .i64 0, .int .i64 7] 113)).alloc (.cells #[.int .i64 1, .int .i64 1000000, .int .i64 0, .int .i64 1000000000] 113)).heap.size = w.heap.size + 11 := by simp
      rw [e] at h; exact (grown_blk (World.grownBy_alloc _ _ _) h)
    · have h := heap_alloc_new ((((((((((((w.alloc (.cells #[.slice none 0 0, .int .i64 0, .nilFunc, .slice none 0 0, .int .i64 0, .nilFunc, .slice none 0 0, .int .i64 0, .nilFunc, .slice none 0 0, .int .i64 0, .nilFunc, .slice none 0 0, .int .i64 0, .nilFunc, .slice none 0 0, .int .i64 0, .nilFunc, .slice none 0 0, .int .i64 0, .nilFunc, .slice none 0 0, .int .i64 0, .nilFunc] 58)).alloc (.cells #[.int .i64 1, .int .i64 99999999] 113)).alloc (.cells #[.int .i64 0, .int .i64 1000000] 113)).alloc (.cells #[.int .i64 1, .int .i64 1000000] 113)).alloc (.cells #[.int .i64 0, .int .i64 1000000000] 113)).alloc (.cells #[.int .i64 0, .int .i64 7] 113)).alloc (.cells #[.int .i64 1, .int .i64 99999999, .int .i64 1, .int .i64 1000000, .int .i64 0, .int .i64 1000000000] 113)).alloc (.cells #[.int .i64 1, .int .i64 1000000, .int .i64 0, .int .i64 1000000000] 113)).alloc (.cells #[.int .i64 1, .int .i64 1000000, .int .i64 0, .int .i64 1000000000] 113)).alloc (.cells #[.int .i64 0, .int .i64 1000000000, .int .i64 0, .int .i64 7] 113)).alloc (.cells #[.int .i64 1, .int .i64 1000000, .int .i64 0, .int .i64 1000000000] 113)).alloc (.cells #[.int .i64 0, .int .i64 1000000] 113)) (.cells #[.int .i64 0, .int .i64 1000000, .int .i64 0, .int .i64 1000000000] 113 (0, 0))
      have e : ((((((((((((w.alloc (.cells #[.slice none 0 0, .int .i64 0, .nilFunc, .slice none 0 0, .int .i64 0, .nilFunc, .slice none 0 0, .int .i64 0, .nilFunc, .slice none 0 0, .int .i64 0, .nilFunc, .slice none 0 0, .int .i64 0, .nilFunc, .slice none 0 0, .int .i64 0, .nilFunc, .slice none 0 0, .int .i64 0, .nilFunc, .slice none 0 0, .int .i64 0, .nilFunc] 58)).alloc (.cells #[.int .i64 1, .int .i64 99999999] 113)).alloc (.cells #[.int .i64 0, .int .i64 1000000] 113)).alloc (.cells #[.int .i64 1, .int .i64 1000000] 113)).alloc (.cells #[.int .i64 0, .int .i64 1000000000] 113)).alloc (.cells #[.int .i64 0, .int .i64 7] 113)).alloc (.cells #[.int .i64 1, .int .i64 99999999, .int .i64 1, .int .i64 1000000, .int .i64 0, .int .i64 1000000000] 113)).alloc (.cells #[.int .i64 1, .int .i64 1000000, .int .i64 0, .int .i64 1000000000] 113)).alloc (.cells #[.int .i64 1, .int .i64 1000000, .int .i64 0, .int .i64 1000000000] 113)).alloc (.cells #[.int .i64 0, .int .i64 1000000000, .int .i64 0, .int .i64 7] 113)).alloc (.cells #[.int .i64 1, .int .i64 1000000, .int .i64 0, .int .i64 1000000000] 113)).alloc (.cells #[.int .i64 0, .int .i64 1000000] 113)).heap.size = w.heap.size + 12 := by simp
      rw [e] at h; exact h
  clear hW hT; have hld : (loadVar 58 ⟨w.heap.size, 0, none⟩).run Tryz.prog (W.setCells w.heap.size 0 [.slice none 0 0, .int .i64 0, .nilFunc, .slice (some ⟨(w.heap.size + 6), 0, none⟩) 3 3, .int .i64 0, .func (.func 53) #[] #[], .slice (some ⟨(w.heap.size + 6) + 1, 0, none⟩) 2 2, .int .i64 128, .func (.func 54) #[] #[], .slice (some ⟨(w.heap.size + 6) + 2, 0, none⟩) 2 2, .int .i64 0, .func (.func 55) #[] #[], .slice (some ⟨(w.heap.size + 6) + 3, 0, none⟩) 2 2, .int .i64 0, .func (.func 56) #[] #[], .slice (some ⟨(w.heap.size + 6) + 4, 0, none⟩) 2 2, .int .i64 8000, .func (.func 56) #[] #[], .slice (some ⟨(w.heap.size + 6) + 5, 0, none⟩) 1 1, .int .i64 0, .func (.func 56) #[] #[], .slice (some ⟨(w.heap.size + 6) + 6, 0, none⟩) 2 2, .int .i64 0, .func (.func 57) #[] #[]]) = .ok (.agg #[.slice none 0 0, .int .i64 0, .nilFunc, .slice (some ⟨(w.heap.size + 6), 0, none⟩) 3 3, .int .i64 0, .func (.func 53) #[] #[], .slice (some ⟨(w.heap.size + 6) + 1, 0, none⟩) 2 2, .int .i64 128, .func (.func 54) #[] #[], .slice (some ⟨(w.heap.size + 6) + 2, 0, none⟩) 2 2, .int .i64 0, .func (.func 55) #[] #[], .slice (some ⟨(w.heap.size + 6) + 3, 0, none⟩) 2 2, .int .i64 0, .func (.func 56) #[] #[], .slice (some ⟨(w.heap.size + 6) + 4, 0, none⟩) 2 2, .int .i64 8000, .func (.func 56) #[] #[], .slice (some ⟨(w.heap.size + 6) + 5, 0, none⟩) 1 1, .int .i64 0, .func (.func 56) #[] #[], .slice (some ⟨(w.heap.size + 6) + 6, 0, none⟩) 2 2, .int .i64 0, .func (.func 57) #[] #[]]) (W.setCells w.heap.size 0 [.slice none 0 0, .int .i64 0, .nilFunc, .slice (some ⟨(w.heap.size + 6), 0, none⟩) 3 3, .int .i64 0, .func (.func 53) #[] #[], .slice (some ⟨(w.heap.size + 6) + 1, 0, none⟩) 2 2, .int .i64 128, .func (.func 54) #[] #[], .slice (some ⟨(w.heap.size + 6) + 2, 0, none⟩) 2 2, .int .i64 0, .func (.func 55) #[] #[], .slice (some ⟨(w.heap.size + 6) + 3, 0, none⟩) 2 2, .int .i64 0, .func (.func 56) #[] #[], .slice (some ⟨(w.heap.size + 6) + 4, 0, none⟩) 2 2, .int .i64 8000, .func (.func 56) #[] #[], .slice (some ⟨(w.heap.size + 6) + 5, 0, none⟩) 1 1, .int .i64 0, .func (.func 56) #[] #[], .slice (some ⟨(w.heap.size + 6) + 6, 0, none⟩) 2 2, .int .i64 0, .func (.func 57) #[] #[]]) := run_loadVar_mid _ w.heap.size 0 58 [.slice none 0 0, .int .i64 0, .nilFunc, .slice (some ⟨(w.heap.size + 6), 0, none⟩) 3 3, .int .i64 0, .func (.func 53) #[] #[], .slice (some ⟨(w.heap.size + 6) + 1, 0, none⟩) 2 2, .int .i64 128, .func (.func 54) #[] #[], .slice (some ⟨(w.heap.size + 6) + 2, 0, none⟩) 2 2, .int .i64 0, .func (.func 55) #[] #[], .slice (some ⟨(w.heap.size + 6) + 3, 0, none⟩) 2 2, .int .i64 0, .func (.func 56) #[] #[], .slice (some ⟨(w.heap.size + 6) + 4, 0, none⟩) 2 2, .int .i64 8000, .func (.func 56) #[] #[], .slice (some ⟨(w.heap.size + 6) + 5, 0, none⟩) 1 1, .int .i64 0, .func (.func 56) #[] #[], .slice (some ⟨(w.heap.size + 6) + 6, 0, none⟩) 2 2, .int .i64 0, .func (.func 57) #[] #[]] _ (World.rangeAt_setCells_same _ _ _ _ HW.out.1) Tryz.underlying58 rfl (by kernel_rfl); refine bodyPost_ret (v := .agg #[.slice none 0 0, .int .i64 0, .nilFunc, .slice (some ⟨(w.heap.size + 6), 0, none⟩) 3 3, .int .i64 0, .func (.func 53) #[] #[], .slice (some ⟨(w.heap.size + 6) + 1, 0, none⟩) 2 2, .int .i64 128, .func (.func 54) #[] #[], .slice (some ⟨(w.heap.size + 6) + 2, 0, none⟩) 2 2, .int .i64 0, .func (.func 55) #[] #[], .slice (some ⟨(w.heap.size + 6) + 3, 0, none⟩) 2 2, .int .i64 0, .func (.func 56) #[] #[], .slice (some ⟨(w.heap.size + 6) + 4, 0, none⟩) 2 2, .int .i64 8000, .func (.func 56) #[] #[], .slice (some ⟨(w.heap.size + 6) + 5, 0, none⟩) 1 1, .int .i64 0, .func (.func 56) #[] #[], .slice (some ⟨(w.heap.size + 6) + 6, 0, none⟩) 2 2, .int .i64 0, .func (.func 57) #[] #[]]) ?_ rfl ⟨w.heap.size + 6, rfl, fun ty h1 h2 => ?_, by omega, grownBy_setCellsN (Nat.le_refl _) _ _ _ HW.out.2.1⟩
  · exact results_ret rfl rfl hld
  · unfold BdR
    rw [setCells_oth _ _ (by omega)]; obtain ⟨-, -, b1, b2, b3, b4, b5, b6, b7⟩ := HW.out
    match ty, h1, h2 with
    | 1, _, _ => exact b1
    | 2, _, _ => exact b2
    | 3, _, _ => exact b3
    | 4, _, _ => exact b4
    | 5, _, _ => exact b5
    | 6, _, _ => exact b6
    | 7, _, _ => exact b7
section
variable {P : Program} {ops : Array Oper} {Q : Exit → Act → World → Prop} {md : Region.Mode} {S : World → Prop} {ex : Nat → Bool}

/-- whatever order is picked, and S holds behind every operation but the excepted ones -/
def wpAnyZ (P : Program) (md : Region.Mode) (ops : Array Oper) (Q : Exit → Act → World → Prop) (S : World → Prop) (ex : Nat → Bool) : Nat → Array Bool → Act → World → Prop
  | 0, listed, a, w => Region.ready md ops listed = [] ∧ Q .normal a w
  | fuel + 1, listed, a, w =>
    (Region.ready md ops listed = [] → Q .normal a w) ∧
    ∀ i ∈ Region.ready md ops listed, wpOp P ops Q i (fun a' w' => (ex i = false → S w → S w') ∧ wpAnyZ P md ops Q S ex fuel (listed.setIfInBounds i true) a' w') a w
theorem wpAny_of_Z : ∀ (fuel : Nat) (listed : Array Bool) (a : Act) (w : World), wpAnyZ P md ops Q S ex fuel listed a w → wpAny P md ops Q fuel listed a w
  | 0, _, _, _, h => h
  | fuel + 1, _, _, _, h => ⟨h.1, fun i hi => wpOp_mono (fun a' w' h' => wpAny_of_Z fuel _ a' w' h'.2) (h.2 i hi)⟩
/-- one that yields under S0 may come first, where S0 holds as long as it is to come -/
theorem wpAnyZ_first {S0 : World → Prop} {I : Array Bool → Prop} {i : Nat} {oi : Oper} {v : Value} (hi : ops[i]? = some oi) (hsel : ∀ (j : Nat) (o : Oper) cs b, ops[j]? = some o → o.op ≠ .select cs b)
    (hQ : ∀ c a w, Q (.panic c) (a.put oi.dst v) w → Q (.panic c) a w)
    (hI : ∀ (listed : Array Bool) (j : Nat) (w w' : World), I listed → i ∈ Region.ready md ops listed → j ∈ Region.ready md ops listed → j ≠ i → S0 w → (ex j = false → S w → S w') → S0 w' ∧ I (listed.setIfInBounds j true)) :
    ∀ (fuel : Nat) (listed : Array Bool) (a : Act) (w : World),
      (∀ j oj, ops[j]? = some oj → j ≠ i → listed.getD j true = false → (∀ e ∈ oj.after, Region.binds md e = true → e.on ≠ i) → oi.apart ops oj = true) →
      i ∈ Region.ready md ops listed → I listed → YieldsIf P ops S0 oi v a → S0 w →
      wpAnyZ P md ops Q S ex fuel (listed.setIfInBounds i true) (a.put oi.dst v) w → wpAnyZ P md ops Q S ex (fuel + 1) listed a w := by
  intro fuel
  induction fuel with
  | zero =>
    intro listed a w _ hr hIl hy hS H; refine ⟨fun h => (by rw [h] at hr; cases hr), fun j hj => ?_⟩
    by_cases hji : j = i
    · subst hji; exact hy.wpOp hi hS ⟨fun _ h => h, H⟩
    · have := ready_mono hj hji; rw [H.1] at this
      cases this
  | succ fuel ih =>
    intro listed a w hfree hr hIl hy hS H; refine ⟨fun h => (by rw [h] at hr; cases hr), fun j hj => ?_⟩
    by_cases hji : j = i
    · subst hji; exact hy.wpOp hi hS ⟨fun _ h => h, H⟩
    · have h1 := H.2 j (ready_mono hj hji); obtain ⟨hjun, oj, hoj, hall⟩ := mem_ready.1 hj; have hiun : listed.getD i false = false := getD_both (mem_ready.1 hr).1
      have hnot : ∀ e ∈ oj.after, Region.binds md e = true → e.on ≠ i := fun e he hb heq => by
        have h1 := hall e he hb; rw [heq, hiun] at h1
        cases h1
      have h2 := wpOp_putIf hoj (hfree j oj hoj hji hjun hnot) (fun cs b => hsel i oi cs b hi) (fun cs b => hsel j oj cs b hoj) hQ hy h1; have hfree' : ∀ k ok, ops[k]? = some ok → k ≠ i → (listed.setIfInBounds j true).getD k true = false →
          (∀ e ∈ ok.after, Region.binds md e = true → e.on ≠ i) → oi.apart ops ok = true := fun k ok hk hki hun hno => by
        refine hfree k ok hk hki ?_ hno
        by_cases hjk : j = k
        · subst hjk; exact hjun
        · rw [getD_set_ne true hjk] at hun; exact hun
      refine wpOp_mono (fun a' w' h3 => ?_) h2; obtain ⟨h4, h5⟩ := hI listed j w w' hIl hr hj hji hS h3.2.1; refine ⟨h3.2.1, ih (listed.setIfInBounds j true) a' w' hfree' (ready_mono hr (Ne.symm hji)) h5 h3.1 h4 ?_⟩; rw [Array.setIfInBounds_comm _ _ hji]; exact h3.2.2
/-- an operation that yields in whatever world -/
theorem wpAnyZ_take {i : Nat} {oi : Oper} {v : Value} {fuel : Nat} {listed : Array Bool} {a : Act} {w : World} (hi : ops[i]? = some oi) (hs : Region.noSelect ops = true) (hf : Region.free md ops listed i = true) (hr : (Region.ready md ops listed).contains i = true)
    (hQ : ∀ c a w, Q (.panic c) (a.put oi.dst v) w → Q (.panic c) a w) (hy : YieldsIf P ops (fun _ => True) oi v a)
    (h : wpAnyZ P md ops Q S ex fuel (listed.setIfInBounds i true) (a.put oi.dst v) w) : wpAnyZ P md ops Q S ex (fuel + 1) listed a w :=
  wpAnyZ_first (S0 := fun _ => True) (I := fun _ => True) hi (Region.noSelect_spec hs) hQ (fun _ _ _ _ _ _ _ _ _ _ => ⟨trivial, trivial⟩) fuel listed a w (Region.free_spec hi hf) (by simpa using hr) trivial hy trivial h
/-- the load: those that are excepted wait for it, or for y that waits for it, or leave the world as it is -/
theorem wpAnyZ_load {i y : Nat} {oi : Oper} {v : Value} {fuel : Nat} {listed : Array Bool} {a : Act} {w : World} (hi : ops[i]? = some oi) (hs : Region.noSelect ops = true) (hf : Region.free md ops listed i = true) (hr : (Region.ready md ops listed).contains i = true)
    (hQ : ∀ c a w, Q (.panic c) (a.put oi.dst v) w → Q (.panic c) a w) (hex : ∀ j, ex j = true → Region.waitsFor md ops j i = true ∨ Region.waitsFor md ops j y = true) (hey : ex y = true) (hyl : listed.getD y false = false) (hy : YieldsIf P ops S oi v a) (hS : S w)
    (h : wpAnyZ P md ops Q S ex fuel (listed.setIfInBounds i true) (a.put oi.dst v) w) : wpAnyZ P md ops Q S ex (fuel + 1) listed a w := by
  refine wpAnyZ_first (S0 := S) (I := fun l => l.getD y false = false) hi (Region.noSelect_spec hs) hQ (fun l j w0 w' hIl hri hrj hne hS0 hS' => ?_) fuel listed a w (Region.free_spec hi hf) (by simpa using hr) hyl hy hS h; have hiun : l.getD i false = false := getD_both (mem_ready.1 hri).1
  have hno : ∀ k, l.getD k false = false → Region.waitsFor md ops j k = true → False := by
    intro k hk hw; obtain ⟨oj, hoj, e, he, hb, hon⟩ := Region.waitsFor_spec hw; obtain ⟨_, oj', hoj', hall⟩ := mem_ready.1 hrj; rw [hoj] at hoj'; obtain rfl := Option.some.inj hoj'; have := hall e he hb; rw [hon, hk] at this
    cases this
  have hexj : ex j = false := by
    cases hx : ex j with
    | false => rfl
    | true =>
      rcases hex j hx with h1 | h1
      · exact (hno i hiun h1).elim
      · exact (hno y hIl h1).elim
  refine ⟨hS' hexj hS0, ?_⟩
  have hjy : j ≠ y := fun e => by rw [e, hey] at hexj; cases hexj
  show (l.setIfInBounds j true).getD y false = false
  rw [getD_set_ne false hjy]; exact hIl
theorem wpAnyZ_done {listed : Array Bool} {a : Act} {w : World} (hr : Region.ready md ops listed = []) (h : Q .normal a w) : ∀ fuel, wpAnyZ P md ops Q S ex fuel listed a w
  | 0 => ⟨hr, h⟩
  | _ + 1 => ⟨fun _ => h, by rw [hr]; simp⟩
/-- one of those that may come up -/
theorem wpZ_step {i : Nat} {o : Oper} {fuel : Nat} {listed : Array Bool} {a : Act} {w : World} (ho : ops[i]? = some o)
    (h : ∀ K : Act → World → Prop, Hid (∀ a' w', (ex i = false → S w → S w') → wpAnyZ P md ops Q S ex fuel (listed.setIfInBounds i true) a' w' → K a' w') →
      if Region.wanted o (yielded ops a.tmps) = true then Oper.wp P o a w K Q else K (a.put o.dst undef) w) :
    wpOp P ops Q i (fun a' w' => (ex i = false → S w → S w') ∧ wpAnyZ P md ops Q S ex fuel (listed.setIfInBounds i true) a' w') a w := by
  unfold wpOp
  simp only [ho]; have h1 := h (fun a' w' => (ex i = false → S w → S w') ∧ wpAnyZ P md ops Q S ex fuel (listed.setIfInBounds i true) a' w') (fun a' w' hS hw => ⟨hS, hw⟩)
  split
  · rename_i hw
    rw [if_pos hw] at h1; exact .inl h1
  · rename_i hw
    rw [if_neg hw] at h1; exact h1
theorem wpAnyZ_one {i : Nat} {o : Oper} {fuel : Nat} {listed : Array Bool} {a : Act} {w : World} (hr : Region.ready md ops listed = [i]) (ho : ops[i]? = some o)
    (h : ∀ K : Act → World → Prop, Hid (∀ a' w', (ex i = false → S w → S w') → wpAnyZ P md ops Q S ex fuel (listed.setIfInBounds i true) a' w' → K a' w') →
      if Region.wanted o (yielded ops a.tmps) = true then Oper.wp P o a w K Q else K (a.put o.dst undef) w) : wpAnyZ P md ops Q S ex (fuel + 1) listed a w := by
  refine ⟨fun h0 => (by rw [hr] at h0; cases h0), fun j hj => ?_⟩; rw [hr] at hj
  obtain rfl : j = i := by simpa using hj
  exact wpZ_step ho h
theorem wpAnyZ_two {i k : Nat} {o o' : Oper} {fuel : Nat} {listed : Array Bool} {a : Act} {w : World} (hr : Region.ready md ops listed = [i, k]) (ho : ops[i]? = some o) (ho' : ops[k]? = some o')
    (h : ∀ K : Act → World → Prop, Hid (∀ a' w', (ex i = false → S w → S w') → wpAnyZ P md ops Q S ex fuel (listed.setIfInBounds i true) a' w' → K a' w') →
      if Region.wanted o (yielded ops a.tmps) = true then Oper.wp P o a w K Q else K (a.put o.dst undef) w)
    (h' : ∀ K : Act → World → Prop, Hid (∀ a' w', (ex k = false → S w → S w') → wpAnyZ P md ops Q S ex fuel (listed.setIfInBounds k true) a' w' → K a' w') →
      if Region.wanted o' (yielded ops a.tmps) = true then Oper.wp P o' a w K Q else K (a.put o'.dst undef) w) : wpAnyZ P md ops Q S ex (fuel + 1) listed a w := by
  refine ⟨fun h0 => (by rw [hr] at h0; cases h0), fun j hj => ?_⟩; rw [hr] at hj; simp only [List.mem_cons, List.not_mem_nil, or_false] at hj
  rcases hj with rfl | rfl
  · exact wpZ_step ho h
  · exact wpZ_step ho' h'
theorem get_of_drop {i : Nat} {oi : Oper} {rest : List Oper} (h : ops.toList.drop i = oi :: rest) : ops[i]? = some oi := by
  have h1 : (ops.toList.drop i)[0]? = some oi := by rw [h]; rfl
  rw [List.getElem?_drop, Array.getElem?_toList] at h1; exact h1
theorem wpAnyZ_take' {i : Nat} {oi : Oper} {rest : List Oper} {v : Value} {fuel : Nat} {listed : Array Bool} {a : Act} {w : World} (hd : ops.toList.drop i = oi :: rest) (hs : Region.noSelect ops = true) (hf : Region.free md ops listed i = true) (hr : (Region.ready md ops listed).contains i = true)
    (hQ : ∀ c a w, Q (.panic c) (a.put oi.dst v) w → Q (.panic c) a w) (hy : YieldsIf P ops (fun _ => True) oi v a)
    (h : wpAnyZ P md ops Q S ex fuel (listed.setIfInBounds i true) (a.put oi.dst v) w) : wpAnyZ P md ops Q S ex (fuel + 1) listed a w := wpAnyZ_take (get_of_drop hd) hs hf hr hQ hy h
theorem wpAnyZ_load' {i y : Nat} {oi : Oper} {rest : List Oper} {v : Value} {fuel : Nat} {listed : Array Bool} {a : Act} {w : World} (hd : ops.toList.drop i = oi :: rest) (hs : Region.noSelect ops = true) (hf : Region.free md ops listed i = true) (hr : (Region.ready md ops listed).contains i = true)
    (hQ : ∀ c a w, Q (.panic c) (a.put oi.dst v) w → Q (.panic c) a w) (hex : ∀ j, ex j = true → Region.waitsFor md ops j i = true ∨ Region.waitsFor md ops j y = true) (hey : ex y = true) (hyl : listed.getD y false = false) (hy : YieldsIf P ops S oi v a) (hS : S w)
    (h : wpAnyZ P md ops Q S ex fuel (listed.setIfInBounds i true) (a.put oi.dst v) w) : wpAnyZ P md ops Q S ex (fuel + 1) listed a w := wpAnyZ_load (get_of_drop hd) hs hf hr hQ hex hey hyl hy hS h
theorem wpAnyZ_one' {i : Nat} {o : Oper} {rest : List Oper} {fuel : Nat} {listed : Array Bool} {a : Act} {w : World} (hr : Region.ready md ops listed = [i]) (ho : ops.toList.drop i = o :: rest)
    (h : ∀ K : Act → World → Prop, Hid (∀ a' w', (ex i = false → S w → S w') → wpAnyZ P md ops Q S ex fuel (listed.setIfInBounds i true) a' w' → K a' w') →
      if Region.wanted o (yielded ops a.tmps) = true then Oper.wp P o a w K Q else K (a.put o.dst undef) w) : wpAnyZ P md ops Q S ex (fuel + 1) listed a w := wpAnyZ_one hr (get_of_drop ho) h
theorem wpAnyZ_two' {i k : Nat} {o o' : Oper} {rest rest' : List Oper} {fuel : Nat} {listed : Array Bool} {a : Act} {w : World} (hr : Region.ready md ops listed = [i, k]) (ho : ops.toList.drop i = o :: rest) (ho' : ops.toList.drop k = o' :: rest')
    (h : ∀ K : Act → World → Prop, Hid (∀ a' w', (ex i = false → S w → S w') → wpAnyZ P md ops Q S ex fuel (listed.setIfInBounds i true) a' w' → K a' w') →
      if Region.wanted o (yielded ops a.tmps) = true then Oper.wp P o a w K Q else K (a.put o.dst undef) w)
    (h' : ∀ K : Act → World → Prop, Hid (∀ a' w', (ex k = false → S w → S w') → wpAnyZ P md ops Q S ex fuel (listed.setIfInBounds k true) a' w' → K a' w') →
      if Region.wanted o' (yielded ops a.tmps) = true then Oper.wp P o' a w K Q else K (a.put o'.dst undef) w) : wpAnyZ P md ops Q S ex (fuel + 1) listed a w := wpAnyZ_two hr (get_of_drop ho) (get_of_drop ho') h h'
theorem wp_region_Z {id : Nat} {a : Act} {w : World} (S : World → Prop) (ex : Nat → Bool) (hm : P.follows .mixedOrders = true) (h : wpAnyZ P .any ops Q S ex ops.size (Array.replicate ops.size false) a w.drew) : (Code.region id ops true).wp P Q a w :=
  wp_region_any hm (wpAny_of_Z _ _ _ _ h)
end
end Go.Proofs.YtjnegjgpkboocaaGreatDoor

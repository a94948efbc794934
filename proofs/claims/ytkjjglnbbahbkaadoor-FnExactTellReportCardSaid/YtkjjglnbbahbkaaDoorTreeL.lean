/-
  Nested data: an element, loaded whole.
-/
import Derived.Test.YtkjjglnbbahbkaaDoorTree2
import Derived.Laws.Cells
import Derived.Deep.MidRow
namespace Go.Proofs.YtkjjglnbbahbkaaDoor
open Go.RowKit

theorem load_el {P : Program} {w Y : World} {b o n : Nat} {e : List Tr} (hh : Y.heap = w.heap) (hn : e.length = n) (hc : ∀ (j : Nat) (y : Tr), e[j]? = some y → w.cell? ⟨b, o + j, none⟩ = some y.cell) : (loadCellsFrom ⟨b, o, none⟩ 0 n #[]).run P Y = .ok (e.map Tr.cell).toArray Y := by
  subst hn
  have h := run_loadCells_list (P := P) (w := Y) (a := ⟨b, o, none⟩) (cs := e.map Tr.cell) (fun j v hv => by
    rw [List.getElem?_map] at hv
    cases hj : e[j]? with
    | none => rw [hj] at hv; cases hv
    | some y =>
      rw [hj] at hv
      obtain rfl := Option.some.inj hv
      rw [add_noneT, World.cell?_of_block (w := w) (by rw [hh])]
      exact hc j y hj)
  rw [List.length_map] at h
  exact h
theorem range_el {w Y : World} {b o : Nat} {e : List Tr} (hc : ∀ (j : Nat) (y : Tr), e[j]? = some y → w.cell? ⟨b, o + j, none⟩ = some y.cell) (hh : Y.heap = w.heap := by rfl) : Y.rangeAt b o (e.map Tr.cell) := fun j v hv => by
  rw [List.getElem?_map] at hv
  cases hj : e[j]? with
  | none => rw [hj] at hv; cases hv
  | some y =>
    rw [hj] at hv
    obtain rfl := Option.some.inj hv
    rw [World.cell?_of_block (w := w) (by rw [hh])]
    exact hc j y hj
end Go.Proofs.YtkjjglnbbahbkaaDoor

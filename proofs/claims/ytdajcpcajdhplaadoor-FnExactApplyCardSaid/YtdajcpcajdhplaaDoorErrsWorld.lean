/-
  A world in which the errors lie as the rows list them.
-/
import Derived.Test.YtdajcpcajdhplaaDoorErrsLaid
import Derived.ProofKit
namespace Go.Proofs.YtdajcpcajdhplaaDoor
open Go.ChangeShapes Go.WideShapes Go.ChangeAt Go.RowKit
namespace ErrsLaid
def errObjs : Array Obj := #[.cells #[.string { data := #[111, 117, 116, 32, 111, 102, 32, 114, 97, 110, 103, 101] }] 170, .cells #[.string { data := #[110, 111, 32, 114, 111, 111, 109, 32, 105, 115, 32, 108, 101, 102, 116] }] 170, .cells #[.string { data := #[110, 111, 116, 32, 97, 32, 103, 111, 111, 100, 32, 110, 97, 109, 101] }] 170, .cells #[.string { data := #[110, 111, 32, 115, 117, 99, 104, 32, 102, 105, 108, 101] }] 170, .cells #[.string { data := #[116, 104, 101, 32, 110, 97, 109, 101, 32, 105, 115, 32, 116, 97, 107, 101, 110] }] 170, .cells #[.string { data := #[116, 104, 101, 32, 112, 111, 119, 101, 114, 32, 105, 115, 32, 111, 102, 102] }] 170, .cells #[.string { data := #[110, 111, 32, 110, 111, 100, 101, 32, 104, 97, 115, 32, 108, 101, 102, 116, 32, 116, 104, 101, 115, 101, 32, 102, 105, 108, 101, 115] }] 170, .cells #[.string { data := #[116, 104, 101, 32, 110, 111, 100, 101, 32, 104, 97, 115, 32, 102, 97, 105, 108, 101, 100] }] 170, .cells #[.string { data := #[116, 104, 101, 32, 110, 111, 100, 101, 32, 105, 115, 32, 100, 111, 119, 110] }] 170, .cells #[.string { data := #[110, 111, 116, 32, 102, 111, 114, 32, 97, 32, 110, 111, 100, 101, 32, 111, 102, 32, 116, 104, 97, 116, 32, 114, 111, 108, 101] }] 170, .cells #[.string { data := #[116, 104, 101, 32, 112, 108, 97, 99, 101, 32, 105, 115, 32, 98, 101, 121, 111, 110, 100, 32, 116, 104, 101, 32, 108, 97, 115, 116, 32, 105, 116, 101, 109] }] 170, .cells #[.string { data := #[116, 104, 101, 32, 105, 116, 101, 109, 32, 105, 115, 110, 39, 116, 32, 107, 101, 112, 116, 32, 97, 110, 121, 32, 109, 111, 114, 101] }] 170]
def laidOn (w0 : World) (low : Nat) : World :=
  { w0 with heap := (((((((((((((w0.heap.modify 0 fun
      | .cells _ t frozen => .cells #[.iface 150 (.pointer (some ⟨low + 0, 0, none⟩))] t frozen
      | o => o).modify 1 fun
      | .cells _ t frozen => .cells #[.iface 150 (.pointer (some ⟨low + 1, 0, none⟩))] t frozen
      | o => o).modify 2 fun
      | .cells _ t frozen => .cells #[.iface 150 (.pointer (some ⟨low + 2, 0, none⟩))] t frozen
      | o => o).modify 3 fun
      | .cells _ t frozen => .cells #[.iface 150 (.pointer (some ⟨low + 3, 0, none⟩))] t frozen
      | o => o).modify 4 fun
      | .cells _ t frozen => .cells #[.iface 150 (.pointer (some ⟨low + 4, 0, none⟩))] t frozen
      | o => o).modify 5 fun
      | .cells _ t frozen => .cells #[.iface 150 (.pointer (some ⟨low + 5, 0, none⟩))] t frozen
      | o => o).modify 6 fun
      | .cells _ t frozen => .cells #[.iface 150 (.pointer (some ⟨low + 6, 0, none⟩))] t frozen
      | o => o).modify 7 fun
      | .cells _ t frozen => .cells #[.iface 150 (.pointer (some ⟨low + 7, 0, none⟩))] t frozen
      | o => o).modify 8 fun
      | .cells _ t frozen => .cells #[.iface 150 (.pointer (some ⟨low + 8, 0, none⟩))] t frozen
      | o => o).modify 9 fun
      | .cells _ t frozen => .cells #[.iface 150 (.pointer (some ⟨low + 9, 0, none⟩))] t frozen
      | o => o).modify 10 fun
      | .cells _ t frozen => .cells #[.iface 150 (.pointer (some ⟨low + 10, 0, none⟩))] t frozen
      | o => o).modify 11 fun
      | .cells _ t frozen => .cells #[.iface 150 (.pointer (some ⟨low + 11, 0, none⟩))] t frozen
      | o => o).modify 12 fun
      | .cells _ t frozen => .cells #[.iface 134 (.agg #[.pointer (some ⟨13, 69, none⟩)])] t frozen
      | o => o) }
theorem sents_met (os : Os) (args : Array Value) : laidMet Tryd.prog (errList.map fun x => (x.1, .iface "*errors.errorString" (.ptr (.agg [.lit (.string x.2)])))) ((laidOn (World.holding Tryd.prog os ⟨errObjs, #[], []⟩) (World.holding Tryd.prog default ⟨#[], #[], []⟩).heap.size).forCall (fun _ _ => 0) ⟨#[], args, []⟩).memory :=
  laidMet_of_run (ps := [.cell 2 0, .cell ((World.holding Tryd.prog default ⟨#[], #[], []⟩).heap.size + 2) 0, .cell 3 0, .cell ((World.holding Tryd.prog default ⟨#[], #[], []⟩).heap.size + 3) 0, .cell 4 0, .cell ((World.holding Tryd.prog default ⟨#[], #[], []⟩).heap.size + 4) 0, .cell 0 0, .cell ((World.holding Tryd.prog default ⟨#[], #[], []⟩).heap.size + 0) 0, .cell 1 0, .cell ((World.holding Tryd.prog default ⟨#[], #[], []⟩).heap.size + 1) 0, .cell 5 0, .cell ((World.holding Tryd.prog default ⟨#[], #[], []⟩).heap.size + 5) 0, .cell 6 0, .cell ((World.holding Tryd.prog default ⟨#[], #[], []⟩).heap.size + 6) 0, .cell 7 0, .cell ((World.holding Tryd.prog default ⟨#[], #[], []⟩).heap.size + 7) 0, .cell 8 0, .cell ((World.holding Tryd.prog default ⟨#[], #[], []⟩).heap.size + 8) 0, .cell 9 0, .cell ((World.holding Tryd.prog default ⟨#[], #[], []⟩).heap.size + 9) 0, .cell 10 0, .cell ((World.holding Tryd.prog default ⟨#[], #[], []⟩).heap.size + 10) 0, .cell 11 0, .cell ((World.holding Tryd.prog default ⟨#[], #[], []⟩).heap.size + 11) 0]) 8 (by kernel_rfl) (by kernel_rfl) (by kernel_rfl)
theorem all_met (os : Os) (args : Array Value) (l : List (String × DataW Unit)) (hl : l = ("errors.errorType", Rows.laid_errors_errorType) :: errList.map fun x => (x.1, .iface "*errors.errorString" (.ptr (.agg [.lit (.string x.2)])))) : laidMetH Tryd.prog l ((laidOn (World.holding Tryd.prog os ⟨errObjs, #[], []⟩) (World.holding Tryd.prog default ⟨#[], #[], []⟩).heap.size).forCall (fun _ _ => 0) ⟨#[], args, []⟩).memory := by
  subst hl
  exact laidMetH_of_parts (sents_met os args) (by kernel_rfl)
end ErrsLaid
end Go.Proofs.YtdajcpcajdhplaaDoor

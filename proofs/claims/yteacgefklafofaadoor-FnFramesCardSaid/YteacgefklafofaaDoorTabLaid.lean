/-
  The sum's table: what the rows' list gives (Tab), and that it stays.
-/
import Derived.Test.YteacgefklafofaaDoorCrcWalks
import Derived.Test.YteacgefklafofaaDoorPost
import Derived.Test.YteacgefklafofaaDoorRows
import Derived.Lib.LaidTab
namespace Go.Proofs.YteacgefklafofaaDoor
open Go.ChangeShapes Go.WideShapes Go.ChangeAt Go.RowKit
theorem Tab_grown {w w' : World} (h : Tab w) (hg : w.grownBy w' none) : Tab w' := fun r hr =>
  (World.cell?_of_block (w := w) (a := ⟨0, r, none⟩) (hg.block _ (cell_block_lt (h r hr)) (by simp))).trans (h r hr)
theorem Tab.heap {w w' : World} (h : Tab w) (hh : w'.heap = w.heap) : Tab w' := fun r hr => (World.cell?_of_block (w := w) (by rw [hh])).trans (h r hr)
namespace TabLaid
def nm : String := "loop.example/s01723/impl.sumTable"
theorem own : ownKnob Tryd.prog.godebug = none := by kernel_rfl
theorem laidOut : laidOutB Tryd.prog = true := by kernel_rfl
theorem gTab : Tryd.prog.globalNamed nm = some 0 := by kernel_rfl
theorem gTabType : (Tryd.prog.globals[0]?).map (·.type) = some 67 := by kernel_rfl
theorem cellsTab : Tryd.prog.cellsOf 67 = 16 := by kernel_rfl
theorem cellsU32 : Tryd.prog.cellsOf 23 = 1 := by kernel_rfl
theorem table {W : World} (h : laidMetH Tryd.prog [(nm, Rows.laid_loop_example_s01723_impl_sumTable)] W) : Lib.TabIs Tryd.prog W nm .u32 [0, 274646895, 549293790, 820201905, 1098587580, 1361435347, 1640403810, 1905808397, 2197175160, 2460548119, 2722870694, 2987750089, 3280807620, 3553878443, 3811616794, 4084100981] :=
  Lib.tabIs_of_head (rest := []) gTab gTabType Tryd.underlying67 Tryd.underlying23 cellsU32 cellsTab h
theorem tab {W : World} (h : laidMetH Tryd.prog [(nm, Rows.laid_loop_example_s01723_impl_sumTable)] W) : Tab W := by
  intro r hr
  have h1 := (table h).cell gTab r (by simpa using hr)
  rw [h1]
  have h2 : ∀ r, r < 16 → ([0, 274646895, 549293790, 820201905, 1098587580, 1361435347, 1640403810, 1905808397, 2197175160, 2460548119, 2722870694, 2987750089, 3280807620, 3553878443, 3811616794, 4084100981] : List Int).getD r 0 = ((Crc.step4 r : Nat) : Int) := by decide
  rw [← h2 r hr]
theorem vars_ok {W : World} (hT : Tab W) : ([nm].all fun n => match Tryd.prog.globalNamed n with
      | none => true
      | some g => decide (g < W.heap.size) && (match (Tryd.prog.globals[g]?).map (·.type) with
        | none => true
        | some t => Tryd.prog.readableRec t && decide (t < Tryd.prog.types.size))) = true := by
  have hg0 : 0 < W.heap.size := cell_block_lt (hT 0 (by decide))
  simp only [List.all_cons, List.all_nil, Bool.and_true, gTab, gTabType, Bool.and_eq_true, decide_eq_true_eq]
  exact ⟨hg0, by kernel_rfl, of_decide_eq_true (by kernel_rfl)⟩
end TabLaid
end Go.Proofs.YteacgefklafofaaDoor

/-
  slices.Clone of bytes, walked.
-/
import Derived.Test.YteacgefklafofaaDoorEnc2
import Derived.Test.YteacgefklafofaaDoorTabLaid
import Derived.Test.YteacgefklafofaaDoorTakeN
import Derived.Lib.BufferMore
namespace Go.Proofs.YteacgefklafofaaDoor
open Go.RowKit

/-- slices.Clone of bytes that aren't nil -/
theorem clone_some (a : Addr) (len cap : Nat) (zs : List Nat) (w : World) (hsl : SlB w (some a) len zs) (hm : len ≤ 1073741824) :
    Calls Tryd.prog 47 #[.slice (some a) len cap] w fun e w' => ∃ g cp, e = .returned (.slice (some ⟨g, 0, none⟩) len cp) ∧ w.heap.size ≤ g ∧ Own w' 5 g zs ∧ w.grownBy w' none := by
  obtain ⟨i0, TB⟩ := byteT
  have HS : Hid (SlB w (some a) len zs) := hsl
  have HZ : Hid (∀ z ∈ zs, z < 256) := hsl.2.1
  have heq : ∀ w', (binOp .eql 22 (.slice (some a) len cap) (.slice none 0 0)).run Tryd.prog w' = .ok (.bool false) w' := fun w' => Lib.run_eql_slice_some_nil w' a len cap Tryd.underlying22
  clear hsl
  go_enter Tryd.func47, Tryd.ntmps47
  go_wp2_with (at_builtin; refine wpList_append_b (by rfl) (.tmp 5) (.tmp 6) TB (by rfl) (base := w.heap.size) (g := w.heap.size) (n := 0) (cap := 0) (xs := []) (by rfl) (by exact World.ownsRow_made w #[] 0 (Nat.le_refl _) (Nat.zero_le _) rfl) (oa := some a) (m := len) (c := cap) (zs := zs) (by rfl) (by exact HS.out.grown0 (World.grownBy_alloc _ _ _)) (by omega) (by simp) ?_; intro g' cap' w1 hown' hgr hat hsz1)
  go_ret
  have C1 : w.grownBy w1 none := grown_next hgr.out (World.grownBy_alloc w _ _) ⟨rfl, rfl, rfl, rfl⟩ (Nat.le_refl _)
  have h1 := hown'.out
  rw [Nat.zero_add, List.nil_append] at h1
  exact ⟨g', cap', rfl, (h1.lt g' rfl).1, own_made h1 HZ.out, C1⟩
end Go.Proofs.YteacgefklafofaaDoor

/-
  The model's FrameEncode, with its codes.
-/
import Derived.Test.YteacgefklafofaaDoorSpecEnc2
import Derived.Test.YteacgefklafofaaDoorMarkS
namespace Go.Proofs.YteacgefklafofaaDoor
open Go.RowKit

/-- what FrameEncode tells: the bytes, the code -/
def encR (ty : Int) (zs : List Nat) : List Nat := if ty < 1 ∨ 255 < ty ∨ 8192 < zs.length then [] else enc ty.toNat zs
def encC (ty : Int) (zs : List Nat) : Int := if ty < 1 ∨ 255 < ty ∨ 8192 < zs.length then 5 else 0
theorem encR_len (ty : Int) (zs : List Nat) : (encR ty zs).length ≤ 8207 := by
  unfold encR
  split
  · simp
  · rw [enc_len]; have := pad_lt zs.length; omega
theorem specEncode_any (ty : Int) (oa : Option Addr) (len cap : Nat) (zs : List Nat) (w : World) (hsl : SlB w oa len zs) (hx : len ≤ maxLen) :
    Calls Tryd.prog 13 #[.agg #[.int .i64 ty, .slice oa len cap]] w fun e w' => ∃ og n cp, e = .returned (.tuple #[.slice og n cp, .int .i64 (encC ty zs)]) ∧ n ≤ 8207 ∧ (og = none → cp = 0) ∧ (∀ g, blk og = some g → w.heap.size ≤ g) ∧ OwnS w' 5 og n (encR ty zs) ∧ w.grownBy w' none := by
  have hl := hsl.1
  by_cases hb : ty < 1 ∨ 255 < ty ∨ 8192 < zs.length
  · refine (specEncode_bad ty oa len cap w (by omega) hx).mono ?_
    rintro e w' ⟨rfl, hG⟩
    refine ⟨none, 0, 0, by simp [encC, hb], by omega, fun _ => rfl, (fun g hg => by cases hg), ?_, hG⟩
    have e1 : encR ty zs = [] := by simp [encR, hb]
    rw [e1]; exact OwnS.none _ _
  · obtain ⟨t, rfl⟩ := Int.eq_ofNat_of_zero_le (show 0 ≤ ty by omega)
    refine (specEncode_ok t oa len cap zs w (by omega) (by omega) (by omega) hsl).mono ?_
    rintro e w' ⟨g, n, cp, rfl, hn, hg, hO, hG, -⟩
    have e1 : encR (t : Int) zs = enc t zs := by simp [encR, hb]
    refine ⟨some ⟨g, 0, none⟩, n, cp, by simp [encC, hb], ?_, (fun h => by cases h), fun g' hg' => ?_, ?_, hG⟩
    · rw [hn, enc_len]; have := pad_lt zs.length; omega
    · obtain rfl : g = g' := by simpa [blk] using hg'
      exact hg
    · rw [e1]; exact hO.s hn.symm
end Go.Proofs.YteacgefklafofaaDoor
